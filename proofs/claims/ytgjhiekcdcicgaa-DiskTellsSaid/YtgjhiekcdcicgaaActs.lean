/- Acts: how they lie in memory; done by them; what holds from act to act. -/
import Derived.Test.YtgjhiekcdcicgaaAwake
import Derived.Test.YtgjhiekcdcicgaaPlain
namespace Go.Proofs.Ytgjhiekcdcicgaa
open Go.RowKit

/-- Acts as cells. -/
def TV (l : List Act) : List Value := l.flatMap fun x => [.int .u8 x.a, .int .u8 x.b.toNat, .bool x.fl]
theorem TV_length (l : List Act) : (TV l).length = l.length * 3 := by
  induction l with
  | nil => rfl
  | cons x l ih => simp only [TV, List.flatMap_cons, List.length_append, List.length_cons, List.length_nil] at ih ⊢; omega
theorem TV_get (l : List Act) (i : Nat) (hi : i < l.length) : (TV l)[i * 3]? = some (.int .u8 l[i].a) ∧ (TV l)[i * 3 + 1]? = some (.int .u8 l[i].b.toNat) ∧ (TV l)[i * 3 + 2]? = some (.bool l[i].fl) := by
  induction l generalizing i with
  | nil => simp at hi
  | cons x l ih =>
    have e : TV (x :: l) = .int .u8 x.a :: .int .u8 x.b.toNat :: .bool x.fl :: TV l := rfl
    rw [e]
    cases i with
    | zero => exact ⟨rfl, rfl, rfl⟩
    | succ i =>
      have := ih i (by simpa using hi)
      rw [show (i + 1) * 3 = i * 3 + 1 + 1 + 1 by omega]
      simpa using this
theorem RV.acts {w : World} {a : Option Addr} {n : Nat} {l : List Act} (h : RV w a n 3 (TV l)) : l.length = n := by have := h.1; rw [TV_length] at this; omega
theorem RV.actAt {w : World} {a : Option Addr} {n : Nat} {l : List Act} (h : RV w a n 3 (TV l)) {k : Nat} (hk : k < n) (hl : k < l.length) :
    ∃ b off, a = some ⟨b, off, none⟩ ∧ b < w.heap.size ∧ w.cell? ⟨b, off + k * 3, none⟩ = some (.int .u8 l[k].a) ∧ w.cell? ⟨b, off + k * 3 + 1, none⟩ = some (.int .u8 l[k].b.toNat) ∧ w.cell? ⟨b, off + k * 3 + 2, none⟩ = some (.bool l[k].fl) := by
  obtain ⟨b, off, e, hb, hc⟩ := h.2 (by omega)
  obtain ⟨h1, h2, h3⟩ := TV_get l k hl
  have l1 : k * 3 < (TV l).length := by rw [TV_length]; omega
  have l2 : k * 3 + 1 < (TV l).length := by rw [TV_length]; omega
  have l3 : k * 3 + 2 < (TV l).length := by rw [TV_length]; omega
  rw [List.getElem?_eq_getElem l1] at h1
  rw [List.getElem?_eq_getElem l2] at h2
  rw [List.getElem?_eq_getElem l3] at h3
  exact ⟨b, off, e, hb, (hc _ l1).trans h1, (by rw [Nat.add_assoc]; exact (hc _ l2).trans h2), (by rw [Nat.add_assoc]; exact (hc _ l3).trans h3)⟩

theorem done_ok {S : List ByteArray} {W : List Wr} {f : Int} {k : Nat} (h : Fine S W f k) (hk : k < 1024) (hf : ¬ f = 0) (x : Act) (hx : x.a ≤ 255) {w : World} {A : Option Addr} {n c : Nat} {A' : Option Addr} {m c' : Nat} (hD : Dev w A n c A' m c' f S W) :
    Calls Try.prog 28 #[DV A n c A' m c' f, AV x.a x.b.toNat x.fl] w (RetDE w (dS S W x) (dW W x) (burnt f) 0) := by
  obtain ⟨a, b, fl⟩ := x
  cases fl with
  | true =>
    refine done_flush A n c A' m c' f a b.toNat _ _ _ _ w (fun w1 hb => ?_)
    exact flush0 A n c A' m c' f S W w1 (hD.below hb) h.ok hf
  | false =>
    refine done_put A n c A' m c' f a b.toNat b rfl hx _ _ _ _ w (fun w1 hb => ?_)
    exact put_yes A n c A' m c' f S W _ _ w1 (hD.below hb) (by rw [h.putE hk (a % 16) (by omega) _ (fillS_size b), if_neg hf])
theorem done_down {S : List ByteArray} {W : List Wr} {k : Nat} (h : Fine S W 0 k) (hk : k < 1024) (x : Act) (hx : x.a ≤ 255) {w : World} {A : Option Addr} {n c : Nat} {A' : Option Addr} {m c' : Nat} (hD : Dev w A n c A' m c' 0 S W) :
    Calls Try.prog 28 #[DV A n c A' m c' 0, AV x.a x.b.toNat x.fl] w (RetDE w S W 0 21) := by
  obtain ⟨a, b, fl⟩ := x
  cases fl with
  | true =>
    refine done_flush A n c A' m c' 0 a b.toNat _ _ _ _ w (fun w1 hb => ?_)
    exact flush21 A n c A' m c' S W w1 (hD.below hb) h.ok
  | false =>
    refine done_put A n c A' m c' 0 a b.toNat b rfl hx _ _ _ _ w (fun w1 hb => ?_)
    have e : putE S W 0 ((a % 16 : Nat) : Int) (fillS b) = 21 := by rw [h.putE hk (a % 16) (by omega) _ (fillS_size b), if_pos rfl]
    have := put_no A n c A' m c' 0 S W ((a % 16 : Nat) : Int) (fillS b) w1 (hD.below hb) (by rw [e]; decide)
    rwa [e] at this

/-- What holds from act to act: the variable b holds a device that is fine. -/
structure Run (w wr : World) (b : Nat) (A : Option Addr) (n c : Nat) (A' : Option Addr) (m c' : Nat) (f : Int) (S : List ByteArray) (W : List Wr) (k : Nat) : Prop where
  bel : Below w.heap.size w wr
  st : St wr b A n c A' m c' f
  dev : Dev wr A n c A' m c' f S W
  fine : Fine S W f k
  new : w.heap.size ≤ b
theorem Run.call {w wr w' : World} {b : Nat} {A : Option Addr} {n c : Nat} {A' : Option Addr} {m c' : Nat} {f : Int} {S : List ByteArray} {W : List Wr} {k : Nat} (h : Run w wr b A n c A' m c' f S W k) (hb : Below wr.heap.size wr w') : Run w w' b A n c A' m c' f S W k :=
  ⟨h.bel.call hb, h.st.call hb, h.dev.below hb, h.fine, h.new⟩
/-- The variable is set to another device. -/
theorem Run.set {w wr : World} {b : Nat} {A : Option Addr} {n c : Nat} {A' : Option Addr} {m c' : Nat} {f : Int} {S : List ByteArray} {W : List Wr} {k : Nat} (h : Run w wr b A n c A' m c' f S W k) {B : Option Addr} {p d : Nat} {B' : Option Addr} {q d' : Nat} {g : Int} {T : List ByteArray} {V : List Wr} {j : Nat}
    (hD : Dev wr B p d B' q d' g T V) (hF : Fine T V g j) : Run w (set3 wr b (.slice B p d) (.slice B' q d') (.int .i64 g)) b B p d B' q d' g T V j :=
  ⟨h.bel.grown (grown_set3 _ _ _ _ _) h.bel.size (by simpa using h.new), h.st.set3 _ _ _ _ _ _ _, hD.only h.st.ns (grown_set3 _ _ _ _ _), hF, h.new⟩

end Go.Proofs.Ytgjhiekcdcicgaa
