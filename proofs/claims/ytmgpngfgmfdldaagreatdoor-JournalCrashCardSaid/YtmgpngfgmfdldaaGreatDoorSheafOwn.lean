/- Contract of own of package sheaf. -/
import Derived.Test.YtmgpngfgmfdldaaGreatDoorSheafRead
import Derived.Test.YtmgpngfgmfdldaaGreatDoorDskA
namespace Go.Proofs.YtmgpngfgmfdldaaGreatDoor.Shf
open Go.RowKit Go.Proofs.YtmgpngfgmfdldaaGreatDoor.Oct
open Go.Proofs.YtmgpngfgmfdldaaGreatDoor.Dsk (RV SV SV_length)

/-- The error that a body tells that is to stand at a place, under a head. -/
def errB (k : Nat) (g n : Int) (s : ByteArray) (i : Int) : Int :=
  if errR s = 0 then (if kA s = k ∧ gA s = g ∧ nA s = n then (if aA s = i then 0 else 4) else 9) else errR s
def ownV (k : Nat) (g n : Int) (s : ByteArray) (i : Int) : Value := if errB k g n s i = 0 then PV (kA s) (gA s) (nA s) (aA s) (oA s) (dA s) else PV 0 0 0 0 0 ⟨#[]⟩

theorem own_cut (k : Nat) (g n : Int) (A : Option Addr) (m c : Nat) (i : Nat) (w : World) (h : (m : Int) ≤ i) :
    Calls Tryz.prog 96 #[HV k g n, .slice A m c, .int .i64 i] w fun r w' => r = .returned (.tuple #[PV 0 0 0 0 0 ⟨#[]⟩, .int .i64 3]) ∧ Below w.heap.size w w' := by
  go_enter Tryz.func96, Tryz.ntmps96
  go_wp2_with fail
  refine bodyPost_ret (v := .tuple #[PV 0 0 0 0 0 ⟨#[]⟩, .int .i64 3]) (by simp [results, Tryz.results96, go_sem, *]) rfl ⟨rfl, ?_⟩
  exact ((Below.refl _ _).push _).push _

set_option maxHeartbeats 800000 in
theorem own_at (k : Nat) (g n : Int) (A : Option Addr) (m c : Nat) (S : List ByteArray) (i : Nat) (w : World) (hR : RV w A m 1 (SV S)) (h : (i : Int) < m) (hl : i < S.length) :
    Calls Tryz.prog 96 #[HV k g n, .slice A m c, .int .i64 i] w fun r w' => r = .returned (.tuple #[ownV k g n S[i] i, .int .i64 (errB k g n S[i] i)]) ∧ Below w.heap.size w w' := by
  obtain ⟨b, off, rfl, hb, hc⟩ := hR.secAt (show i < m by omega) hl
  unfold ownV
  have HR := Lib.hid (fun W => read_any S[i] W)
  unfold partV at HR
  have HB : Hid (errB k g n S[i] i = if errR S[i] = 0 then (if kA S[i] = k ∧ gA S[i] = g ∧ nA S[i] = n then (if aA S[i] = i then 0 else 4) else 9) else errR S[i]) := Lib.hid rfl
  generalize errB k g n S[i] i = err at *
  generalize S[i] = s at *
  clear hR hl
  go_enter Tryz.func96, Tryz.ntmps96
  go_wp2_with fail
  with_reducible refine (HR.out _).mono ?_
  rintro r w1 ⟨rfl, b1⟩
  have R1 : Box6 w1 (w.heap.size + 1) (.int .u8 0) (.int .i64 0) (.int .i64 0) (.int .i64 0) (.int .i64 0) (.string ⟨#[]⟩) := by
    have := (Box6.new (w.alloc (.cells #[.int .u8 k, .int .i64 g, .int .i64 n] 68)) (.int .u8 0) (.int .i64 0) (.int .i64 0) (.int .i64 0) (.int .i64 0) (.string ⟨#[]⟩) 154).below b1 (by simp)
    rwa [World.size_alloc] at this
  have F1 : Fr6 w1 (w.heap.size + 1) := by
    have := (Fr6.new (w.alloc (.cells #[.int .u8 k, .int .i64 g, .int .i64 n] 68)) (.int .u8 0) (.int .i64 0) (.int .i64 0) (.int .i64 0) (.int .i64 0) (.string ⟨#[]⟩) 154).below b1 (by simp)
    rwa [World.size_alloc] at this
  have H1 := ((Box.new w (.int .u8 k) (.int .i64 g) (.int .i64 n) 68).alloc (by simp) (.cells #[.int .u8 0, .int .i64 0, .int .i64 0, .int .i64 0, .int .i64 0, .string ⟨#[]⟩] 154)).below b1 (by simp; omega)
  have HB1 := Lib.hid ((((Below.refl _ w).push _).push _).call b1)
  have hz : w.heap.size + 1 < w1.heap.size := cell_lt R1.c0
  have ne1 : ¬ w1.heap.size = w.heap.size := by omega
  have ne2 : ¬ w1.heap.size = w.heap.size + 1 := by omega
  have ne3 : ¬ w.heap.size + 1 = w1.heap.size := by omega
  have hz0 : w.heap.size < w1.heap.size := by omega
  obtain ⟨a0, a1, a2, b0, b1', b2⟩ := H1
  obtain ⟨r0, r1, r2, r3, r4, r5⟩ := R1
  obtain ⟨f0, f1, f2, f3, f4, f5⟩ := F1
  clear b1 HR hc hb
  by_cases he : errR s = 0
  · have HB2 := Lib.hid HB.out
    rw [if_pos he] at HB2
    rw [if_pos he, he]
    clear HB he
    by_cases hall : kA s = k ∧ gA s = g ∧ nA s = n
    · have HB3 := Lib.hid HB2.out
      rw [if_pos hall] at HB3
      clear HB2
      obtain ⟨rfl, rfl, rfl⟩ := hall
      by_cases hp : aA s = i
      · obtain rfl : err = 0 := by rw [HB3.out, if_pos hp]
        have hq : (aA s != (i : Int)) = false := by simpa using hp
        clear HB3 hp
        go_wp2_with fail
        refine bodyPost_ret (v := .tuple #[PV (kA s) (gA s) (nA s) (aA s) (oA s) (dA s), .int .i64 0]) (by simp [results, Tryz.results96, go_sem, *]) rfl ⟨rfl, ?_⟩
        exact (HB1.out.set6 (Nat.le_succ _) _ _ _ _ _ _).push _
      · obtain rfl : err = 4 := by rw [HB3.out, if_neg hp]
        have hq : (aA s != (i : Int)) = true := by simpa using hp
        clear HB3 hp
        go_wp2_with fail
        refine bodyPost_ret (v := .tuple #[PV 0 0 0 0 0 ⟨#[]⟩, .int .i64 4]) (by simp [results, Tryz.results96, go_sem, *]) rfl ⟨rfl, ?_⟩
        exact (HB1.out.set6 (Nat.le_succ _) _ _ _ _ _ _).push _
    · obtain rfl : err = 9 := by rw [HB2.out, if_neg hall]
      clear HB2
      by_cases hk : kA s = k
      · subst hk
        by_cases hg : gA s = g
        · subst hg
          have hn : ¬ nA s = n := fun e => hall ⟨rfl, rfl, e⟩
          have hq : (nA s == n) = false := by simpa using hn
          clear hall
          go_wp2_with fail
          refine bodyPost_ret (v := .tuple #[PV 0 0 0 0 0 ⟨#[]⟩, .int .i64 9]) (by simp [results, Tryz.results96, go_sem, *]) rfl ⟨rfl, ?_⟩
          exact (HB1.out.set6 (Nat.le_succ _) _ _ _ _ _ _).push _
        · have hq : (gA s == g) = false := by simpa using hg
          clear hall
          go_wp2_with fail
          refine bodyPost_ret (v := .tuple #[PV 0 0 0 0 0 ⟨#[]⟩, .int .i64 9]) (by simp [results, Tryz.results96, go_sem, *]) rfl ⟨rfl, ?_⟩
          exact (HB1.out.set6 (Nat.le_succ _) _ _ _ _ _ _).push _
      · have hk2 : ¬ (kA s : Int) = k := by omega
        have hq : ((kA s : Int) == k) = false := by simpa using hk2
        clear hall
        go_wp2_with fail
        refine bodyPost_ret (v := .tuple #[PV 0 0 0 0 0 ⟨#[]⟩, .int .i64 9]) (by simp [results, Tryz.results96, go_sem, *]) rfl ⟨rfl, ?_⟩
        exact (HB1.out.set6 (Nat.le_succ _) _ _ _ _ _ _).push _
  · obtain rfl : err = errR s := by rw [HB.out, if_neg he]
    have hq : (errR s != 0) = true := by simpa using he
    rw [if_neg he]
    clear HB
    go_wp2_with fail
    refine bodyPost_ret (v := .tuple #[PV 0 0 0 0 0 ⟨#[]⟩, .int .i64 (errR s)]) (by simp [results, Tryz.results96, go_sem, *]) rfl ⟨rfl, ?_⟩
    exact (HB1.out.set6 (Nat.le_succ _) _ _ _ _ _ _).push _

end Go.Proofs.YtmgpngfgmfdldaaGreatDoor.Shf
