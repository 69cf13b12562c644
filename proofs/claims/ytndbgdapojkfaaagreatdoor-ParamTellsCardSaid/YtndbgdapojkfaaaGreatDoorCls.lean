/- A region that draws its order, over a class of worlds. Of whatever program. -/
import Derived.WalkKit
import Derived.Below
import Derived.BigQuiet
import Derived.OwnWalk
namespace Go.Proofs.YtndbgdapojkfaaaGreatDoor.Cls
open Go.RowKit

/-- A world of the class G, as one thing. -/
structure Wd (G : World → Prop) where
  W : World
  ok : G W
theorem wp_region_class {P : Program} {id : Nat} {Q : Exit → Act → World → Prop} {a : Act} {w : World} {l : List Oper} (G : World → Prop) (hG : G { w with drawn := w.drawn + 1 })
    (hm : P.follows .mixedOrders = true) (hB : Region.lexB .any l.toArray = true)
    (h : Nonempty (Wd G) → wpQuiet P l.toArray (fun w' => ∃ x : Wd G, w' = x.W) (fun a' => ∀ w', (∃ x : Wd G, w' = x.W) → Q .normal a' w') l a) : (Code.region id l.toArray true).wp P Q a w :=
  wp_region_quiet (C := fun w' => ∃ x : Wd G, w' = x.W) hm hB ⟨⟨_, hG⟩, rfl⟩ (by simpa using h ⟨⟨_, hG⟩⟩)
theorem wd_call {P : Program} {f : FuncId} {args : Array Value} {G : World → Prop} {x : Wd G} {v : Value} (hk : ∀ W W', G W → Below W.heap.size W W' → G W')
    (h : Calls P f args x.W fun r w' => r = .returned v ∧ Below x.W.heap.size x.W w') : Calls P f args x.W fun r w'' => r = .returned v ∧ ∃ y : Wd G, w'' = y.W :=
  h.mono fun _ _ ⟨he, hb⟩ => ⟨he, ⟨_, hk _ _ x.ok hb⟩, rfl⟩
/-- The same at a callee that leaves the world alone. -/
theorem wd_same {P : Program} {f : FuncId} {args : Array Value} {G : World → Prop} {x : Wd G} {v : Value}
    (h : Calls P f args x.W fun r w' => r = .returned v ∧ x.W = w') : Calls P f args x.W fun r w'' => r = .returned v ∧ ∃ y : Wd G, w'' = y.W :=
  h.mono fun _ _ ⟨he, hb⟩ => ⟨he, x, hb.symm⟩
end Go.Proofs.YtndbgdapojkfaaaGreatDoor.Cls
