/- Behind a region that makes a device: the variable that holds it. -/
import Derived.Test.YtmgpngfgmfdldaaGreatDoorDskB
namespace Go.Proofs.YtmgpngfgmfdldaaGreatDoor.Dsk
open Go.RowKit

theorem blt {W w1 : World} (hb : Below W.heap.size W w1) : ∀ b, b < W.heap.size → b < w1.heap.size := fun _ h => Nat.lt_of_lt_of_le h hb.size

/-- Behind a region: the variable in block b holds this device. -/
structure NewD (w wx : World) (b : Nat) (A : Option Addr) (n c : Nat) (A' : Option Addr) (m c' : Nat) (f : Int) (S : List ByteArray) (W : List Wr) : Prop where
  bel : Below w.heap.size w wx
  st : St wx b A n c A' m c' f
  dev : Dev wx A n c A' m c' f S W
  new : w.heap.size ≤ b
section
variable {w wx : World} {b : Nat} {A : Option Addr} {n c : Nat} {A' : Option Addr} {m c' : Nat} {f : Int} {S : List ByteArray} {W : List Wr}
theorem NewD.fresh (hb : Below w.heap.size w wx) (hD : Dev wx A n c A' m c' f S W) (t : TypeId) : NewD w (wx.alloc (.cells #[.slice A n c, .slice A' m c', .int .i64 f] t)) wx.heap.size A n c A' m c' f S W :=
  ⟨hb.push _, St.new _ _ _ _ _ _ _ _ _, hD.new _, hb.size⟩
theorem NewD.put (hb : Below w.heap.size w wx) (hD : Dev wx A n c A' m c' f S W) (hs : St wx b none 0 0 none 0 0 0) (hw : w.heap.size ≤ b) : NewD w (set3 wx b (.slice A n c) (.slice A' m c') (.int .i64 f)) b A n c A' m c' f S W :=
  ⟨hb.grown (grown_set3 _ _ _ _ _) hb.size (by simpa using hw), hs.set3 _ _ _ _ _ _ _, hD.only hs.ns (grown_set3 _ _ _ _ _), hw⟩
end

end Go.Proofs.YtmgpngfgmfdldaaGreatDoor.Dsk
