/- What 'reads' of the statement OctetBack tells, as a plain function, and what it comes to. -/
import Derived.Test.YtannhdhibajbkaaTake
import Derived.Test.YtannhdhibajbkaaBytes
namespace Go.Proofs.Ytannhdhibajbkaa

/-- The texts are read from a cursor on, and nothing is left. -/
def fromT (s : ByteArray) : List ByteArray → Int → Int → Bool
  | [], p, e => endR s p e == 0
  | t :: ts, p, e => if (takeR s p e).2.1 = 0 ∧ (takeR s p e).2.2 ≠ t then false else fromT s ts (takeR s p e).1 (takeR s p e).2.1

/-- The numbers from place i on, and then the texts. -/
def fromN (s : ByteArray) (ls : List ByteArray) : List Nat → Nat → Int → Int → Bool
  | [], _, p, e => fromT s ls p e
  | n :: ns, i, p, e => if (numR s p e (4 + i % 4 : Nat)).2.1 = 0 ∧ (numR s p e (4 + i % 4 : Nat)).2.2 ≠ n then false else fromN s ls ns (i + 1) (numR s p e (4 + i % 4 : Nat)).1 (numR s p e (4 + i % 4 : Nat)).2.1

/-- The bytes of texts, and of numbers from place i on. -/
def encT : List ByteArray → List UInt8
  | [] => []
  | t :: ts => beB 2 t.size ++ (t.data.toList ++ encT ts)
def encN : List Nat → Nat → List UInt8
  | [], _ => []
  | n :: ns, i => beB (4 + i % 4) n ++ encN ns (i + 1)

theorem encT_snoc (ts : List ByteArray) (t : ByteArray) : encT (ts ++ [t]) = encT ts ++ (beB 2 t.size ++ t.data.toList) := by
  induction ts with
  | nil => simp [encT]
  | cons a ts ih => simp [encT, ih, List.append_assoc]
theorem encN_snoc (ns : List Nat) (n i : Nat) : encN (ns ++ [n]) i = encN ns i ++ beB (4 + (i + ns.length) % 4) n := by
  induction ns generalizing i with
  | nil => simp [encN]
  | cons a ns ih =>
    simp only [List.cons_append, encN, ih, List.append_assoc, List.length_cons]
    rw [show i + 1 + ns.length = i + (ns.length + 1) from by omega]

theorem encT_length_le (ts : List ByteArray) (h : ∀ t ∈ ts, t.size ≤ 60) : (encT ts).length ≤ 62 * ts.length := by
  induction ts with
  | nil => simp [encT]
  | cons a ts ih =>
    have h1 := h a (by simp)
    have h2 := ih (fun t ht => h t (by simp [ht]))
    have h3 : a.data.toList.length = a.size := rfl
    simp only [encT, List.length_append, beB_length, h3, List.length_cons]
    omega
theorem encN_length_le (ns : List Nat) (i : Nat) : (encN ns i).length ≤ 7 * ns.length := by
  induction ns generalizing i with
  | nil => simp [encN]
  | cons a ns ih =>
    have := ih (i + 1)
    simp only [encN, List.length_append, beB_length, List.length_cons]
    omega

theorem natBE_beB (k x : Nat) : natBE (beB k x) = x % 256 ^ k := by
  have gen : ∀ (k : Nat) (acc : Nat), (beB k x).foldl (fun a b => a * 256 + b.toNat) acc = acc * 256 ^ k + x % 256 ^ k := by
    intro k
    induction k with
    | zero => intro acc; simp [beB, Nat.mod_one]
    | succ k ih =>
      intro acc
      have e : (UInt8.ofNat (x / 256 ^ k % 256)).toNat = x / 256 ^ k % 256 := by simp
      simp only [beB, List.foldl_cons, ih, e]
      have h1 : x % 256 ^ (k + 1) = x / 256 ^ k % 256 * 256 ^ k + x % 256 ^ k := by
        rw [Nat.pow_succ, Nat.mod_mul]
        rw [Nat.mul_comm (256 ^ k), Nat.add_comm]
      rw [h1, Nat.pow_succ, Nat.add_mul, Nat.mul_assoc, Nat.mul_comm 256 (256 ^ k)]
      omega
  have := gen k 0
  simpa [natBE] using this

theorem numAt_beB (s : ByteArray) (p k x : Nat) (r : List UInt8) (hx : x < 256 ^ k) (h : s.data.toList.drop p = beB k x ++ r) : numAt s p k = x := by
  unfold numAt
  rw [Int.toNat_natCast, h, List.take_append_of_le_length (by rw [beB_length]; omega), List.take_of_length_le (by rw [beB_length]; omega), natBE_beB, Nat.mod_eq_of_lt hx]

theorem size_of_drop {s : ByteArray} {p : Nat} {l : List UInt8} (hp : p ≤ s.size) (h : s.data.toList.drop p = l) : s.size = p + l.length := by
  have : l.length = s.size - p := by rw [← h, List.length_drop]; rfl
  omega

theorem fromT_true (s : ByteArray) : ∀ (ts : List ByteArray) (p : Nat), p ≤ s.size → (∀ t ∈ ts, t.size ≤ 60) → s.data.toList.drop p = encT ts → fromT s ts p 0 = true := by
  intro ts
  induction ts with
  | nil =>
    intro p hp _ h
    have := size_of_drop hp h
    simp [encT] at this
    simp [fromT, endR]
    omega
  | cons t ts ih =>
    intro p hp ht h
    have h60 := ht t (by simp)
    have hsz := size_of_drop hp h
    have h3 : t.data.toList.length = t.size := rfl
    simp only [encT, List.length_append, beB_length, h3] at hsz
    have hnum : numAt s p 2 = t.size := numAt_beB s p 2 t.size _ (by omega) h
    have hN : numR s p 0 2 = ((p : Int) + 2, 0, (t.size : Int)) := by
      unfold numR
      rw [if_pos rfl, if_pos (by omega), if_neg (by omega), show (2 : Int).toNat = 2 from rfl, hnum]
    have hT : takeR s p 0 = ((p : Int) + 2 + t.size, 0, t) := by
      unfold takeR
      rw [hN]
      dsimp only
      rw [if_pos rfl, if_neg (by omega)]
      congr 2
      rw [show ((p : Int) + 2).toNat = p + 2 from by omega, show ((p : Int) + 2 + t.size).toNat = p + 2 + t.size from by omega]
      apply ByteArray.ext
      apply Array.toList_inj.1
      rw [ByteArray.data_extract, Array.toList_extract]
      have : s.data.toList.drop (p + 2) = t.data.toList ++ encT ts := by
        rw [← List.drop_drop, h, encT, List.drop_append_of_le_length (by rw [beB_length]; omega), List.drop_of_length_le (by rw [beB_length]; omega)]; rfl
      rw [List.extract_eq_take_drop, this, show p + 2 + t.size - (p + 2) = t.data.toList.length from by rw [h3]; omega, List.take_left]
    have hdrop : s.data.toList.drop (p + 2 + t.size) = encT ts := by
      rw [show p + 2 + t.size = p + (2 + t.size) from by omega, ← List.drop_drop, h, encT, ← List.append_assoc, List.drop_append_of_le_length (by simp [beB_length, h3]), List.drop_of_length_le (by simp [beB_length, h3])]; rfl
    unfold fromT
    rw [hT]
    dsimp only
    rw [if_neg (by simp)]
    have := ih (p + 2 + t.size) (by omega) (fun u hu => ht u (by simp [hu])) hdrop
    simpa using this

theorem fromN_true (s : ByteArray) (ls : List ByteArray) (hl : ∀ t ∈ ls, t.size ≤ 60) : ∀ (ns : List Nat) (i p : Nat), p ≤ s.size → (∀ n ∈ ns, n < 4294967296) → s.data.toList.drop p = encN ns i ++ encT ls → fromN s ls ns i p 0 = true := by
  intro ns
  induction ns with
  | nil =>
    intro i p hp _ h
    exact fromT_true s ls p hp hl (by simpa [encN] using h)
  | cons n ns ih =>
    intro i p hp hn h
    have hsz := size_of_drop hp h
    simp only [encN, List.length_append, beB_length] at hsz
    have h32 : n < 256 ^ (4 + i % 4) := Nat.lt_of_lt_of_le (hn n (by simp)) (by
      have : 256 ^ 4 ≤ 256 ^ (4 + i % 4) := Nat.pow_le_pow_right (by omega) (by omega)
      omega)
    have hnum : numAt s p (4 + i % 4) = n := numAt_beB s p (4 + i % 4) n (encN ns (i + 1) ++ encT ls) h32 (by rw [h, encN, List.append_assoc])
    have hN : numR s p 0 (4 + i % 4 : Nat) = ((p : Int) + (4 + i % 4 : Nat), 0, (n : Int)) := by
      unfold numR
      rw [if_pos rfl, if_pos (by omega), if_neg (by omega), Int.toNat_natCast, hnum]
    have hdrop : s.data.toList.drop (p + (4 + i % 4)) = encN ns (i + 1) ++ encT ls := by
      rw [← List.drop_drop, h, encN, List.append_assoc, List.drop_append_of_le_length (by rw [beB_length]; omega), List.drop_of_length_le (by rw [beB_length]; omega)]; rfl
    unfold fromN
    rw [hN]
    dsimp only
    rw [if_neg (by simp)]
    have := ih (i + 1) (p + (4 + i % 4)) (by omega) (fun m hm => hn m (by simp [hm])) hdrop
    simpa using this

theorem takeR_good {s : ByteArray} {p e : Int} (h : (takeR s p e).2.1 = 0) : e = 0 ∧ 0 ≤ p ∧ (takeR s p e).1 = p + 2 + (takeR s p e).2.2.size := by
  unfold takeR at h ⊢
  by_cases h0 : (numR s p e 2).2.1 = 0
  · rw [if_pos h0] at h ⊢
    obtain ⟨h1, h2, -, -, h5, h6⟩ := numR_good h0
    have hn := numAt_nonneg s p 2
    rw [h6] at h ⊢
    dsimp only at h ⊢
    rw [show (2 : Int).toNat = 2 from rfl] at h ⊢
    by_cases h7 : s.size - (p + 2) < numAt s p 2
    · rw [if_pos h7] at h; simp at h
    · rw [if_neg h7]
      refine ⟨h1, h2, ?_⟩
      dsimp only
      rw [ByteArray.size_extract]
      omega
  · rw [if_neg h0] at h
    exact absurd h h0

theorem fromT_false (s : ByteArray) : ∀ (ts : List ByteArray) (p e : Int), (e = 0 → 0 ≤ p ∧ p + (encT ts).length ≠ s.size) → fromT s ts p e = false := by
  intro ts
  induction ts with
  | nil =>
    intro p e h
    simp only [fromT, endR]
    by_cases he : e = 0
    · obtain ⟨h1, h2⟩ := h he
      simp [encT] at h2
      rw [if_pos he]
      split
      · split
        · rfl
        · omega
      · rfl
    · rw [if_neg he]; simpa using he
  | cons t ts ih =>
    intro p e h
    unfold fromT
    by_cases hf : (takeR s p e).2.1 = 0
    · obtain ⟨he, hp, hq⟩ := takeR_good hf
      by_cases hu : (takeR s p e).2.2 = t
      · rw [if_neg (fun x => x.2 hu)]
        apply ih
        intro _
        rw [hq, hu]
        have := (h he).2
        have h3 : t.data.toList.length = t.size := rfl
        simp only [encT, List.length_append, beB_length, h3] at this
        omega
      · rw [if_pos ⟨hf, hu⟩]
    · rw [if_neg (fun x => hf x.1)]
      exact ih _ _ (fun x => absurd x hf)

theorem fromN_false (s : ByteArray) (ls : List ByteArray) : ∀ (ns : List Nat) (i : Nat) (p e : Int), (e = 0 → 0 ≤ p ∧ p + (encN ns i ++ encT ls).length ≠ s.size) → fromN s ls ns i p e = false := by
  intro ns
  induction ns with
  | nil =>
    intro i p e h
    exact fromT_false s ls p e (by simpa [encN] using h)
  | cons n ns ih =>
    intro i p e h
    unfold fromN
    by_cases hf : (numR s p e (4 + i % 4 : Nat)).2.1 = 0
    · obtain ⟨he, hp, -, -, -, hq⟩ := numR_good hf
      by_cases hu : (numR s p e (4 + i % 4 : Nat)).2.2 = n
      · rw [if_neg (fun x => x.2 hu)]
        apply ih
        intro _
        rw [hq]
        have := (h he).2
        simp only [encN, List.length_append, beB_length] at this ⊢
        omega
      · rw [if_pos ⟨hf, hu⟩]
    · rw [if_neg (fun x => hf x.1)]
      exact ih _ _ _ (fun x => absurd x hf)

end Go.Proofs.Ytannhdhibajbkaa
