/- Contract of the document's Save of package slots. -/
import Derived.Test.YtmgpngfgmfdldaaGreatDoorSlotsRefE
namespace Go.Proofs.YtmgpngfgmfdldaaGreatDoor.Slt
open Go.RowKit Go.Proofs.YtmgpngfgmfdldaaGreatDoor.Dsk Go.Proofs.YtmgpngfgmfdldaaGreatDoor.Sht Go.Proofs.YtmgpngfgmfdldaaGreatDoor.Shf

theorem put_one {w wr : World} {B : Option Addr} {p d : Nat} {B' : Option Addr} {q d' : Nat} {f : Int} {S : List ByteArray} {W : List Wr} (hb : Below w.heap.size w wr) (hr : St wr (w.heap.size + 1) none 0 0 none 0 0 0) (hd : Dev wr B p d B' q d' f S W) :
    Below w.heap.size w (set3 wr (w.heap.size + 1) (.slice B p d) (.slice B' q d') (.int .i64 f)) ∧ Dev (set3 wr (w.heap.size + 1) (.slice B p d) (.slice B' q d') (.int .i64 f)) B p d B' q d' f S W ∧ Box (set3 wr (w.heap.size + 1) (.slice B p d) (.slice B' q d') (.int .i64 f)) (w.heap.size + 1) (.slice B p d) (.slice B' q d') (.int .i64 f) :=
  ⟨hb.grown (grown_set3 _ _ _ _ _) hb.size (by simp), hd.only hr.ns (grown_set3 _ _ _ _ _), (hr.set3 _ _ _ _ _ _ _).box⟩

section
variable (A : Option Addr) (n c : Nat) (A' : Option Addr) (m c' : Nat) (f : Int) (S : List ByteArray) (V : List Wr) (z g st : Int) (t : ByteArray) (w : World) (hD : Dev w A n c A' m c' f S V)
include hD

end
end Go.Proofs.YtmgpngfgmfdldaaGreatDoor.Slt
