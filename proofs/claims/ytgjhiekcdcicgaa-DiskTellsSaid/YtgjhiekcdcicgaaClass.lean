/- A region that draws its order, walked once, in a class of worlds that its operations and callees keep. -/
import Derived.Test.YtgjhiekcdcicgaaBase
import Derived.BigQuiet
namespace Go.Proofs.Ytgjhiekcdcicgaa
open Go.RowKit

/-- A world of the class G, as one thing: what holds in the class is then said of it without a premise. -/
structure Wd (G : World → Prop) where
  W : World
  ok : G W

theorem wp_region_class {P : Program} {id : Nat} {Q : Exit → Act → World → Prop} {a : Act} {w : World} {l : List Oper} (G : World → Prop) (hG : G { w with drawn := w.drawn + 1 })
    (hm : P.follows .mixedOrders = true) (hB : Region.lexB .any l.toArray = true)
    (h : Nonempty (Wd G) → wpQuiet P l.toArray (fun w' => ∃ x : Wd G, w' = x.W) (fun a' => ∀ w', (∃ x : Wd G, w' = x.W) → Q .normal a' w') l a) : (Code.region id l.toArray true).wp P Q a w :=
  wp_region_quiet (C := fun w' => ∃ x : Wd G, w' = x.W) hm hB ⟨⟨_, hG⟩, rfl⟩ (by simpa using h ⟨⟨_, hG⟩⟩)

/-- A callee that changes nothing that was there, in a class that is kept so. -/
theorem wd_call {P : Program} {f : FuncId} {args : Array Value} {G : World → Prop} {x : Wd G} {v : Value} (hk : ∀ W W', G W → Below W.heap.size W W' → G W')
    (h : Calls P f args x.W fun r w' => r = .returned v ∧ Below x.W.heap.size x.W w') : Calls P f args x.W fun r w'' => r = .returned v ∧ ∃ y : Wd G, w'' = y.W :=
  h.mono fun _ _ ⟨he, hb⟩ => ⟨he, ⟨_, hk _ _ x.ok hb⟩, rfl⟩

/-- A device, and the variable that holds it. -/
structure Hold (w : World) (b : Nat) (A : Option Addr) (n c : Nat) (A' : Option Addr) (m c' : Nat) (f : Int) (S : List ByteArray) (W : List Wr) : Prop where
  box : Box w b (.slice A n c) (.slice A' m c') (.int .i64 f)
  dev : Dev w A n c A' m c' f S W
theorem Hold.call {w w' : World} {b : Nat} {A : Option Addr} {n c : Nat} {A' : Option Addr} {m c' : Nat} {f : Int} {S : List ByteArray} {W : List Wr} (h : Hold w b A n c A' m c' f S W) (hb : Below w.heap.size w w') : Hold w' b A n c A' m c' f S W :=
  ⟨h.box.call hb, h.dev.below hb⟩

/-- The class of worlds in which two variables hold their devices. -/
def Two (w : World) (b : Nat) (A : Option Addr) (n c : Nat) (A' : Option Addr) (m c' : Nat) (f : Int) (S : List ByteArray) (W : List Wr) (d : Nat) (B : Option Addr) (p k : Nat) (B' : Option Addr) (q k' : Nat) (g : Int) (T : List ByteArray) (V : List Wr) (x : World) : Prop :=
  Below w.heap.size w x ∧ Hold x b A n c A' m c' f S W ∧ Hold x d B p k B' q k' g T V
theorem Two.kept {w : World} {b : Nat} {A : Option Addr} {n c : Nat} {A' : Option Addr} {m c' : Nat} {f : Int} {S : List ByteArray} {W : List Wr} {d : Nat} {B : Option Addr} {p k : Nat} {B' : Option Addr} {q k' : Nat} {g : Int} {T : List ByteArray} {V : List Wr}
    (x y : World) (h : Two w b A n c A' m c' f S W d B p k B' q k' g T V x) (hb : Below x.heap.size x y) : Two w b A n c A' m c' f S W d B p k B' q k' g T V y :=
  ⟨h.1.call hb, h.2.1.call hb, h.2.2.call hb⟩
theorem Two.drawn {w : World} {b : Nat} {A : Option Addr} {n c : Nat} {A' : Option Addr} {m c' : Nat} {f : Int} {S : List ByteArray} {W : List Wr} {d : Nat} {B : Option Addr} {p k : Nat} {B' : Option Addr} {q k' : Nat} {g : Int} {T : List ByteArray} {V : List Wr}
    {x : World} (h : Two w b A n c A' m c' f S W d B p k B' q k' g T V x) : Two w b A n c A' m c' f S W d B p k B' q k' g T V { x with drawn := x.drawn + 1 } :=
  h.kept _ _ ⟨rfl, rfl, rfl, Nat.le_refl _, fun _ _ => rfl⟩

end Go.Proofs.Ytgjhiekcdcicgaa
