/- The walk of SheafTurned. -/
import Derived.Test.YtcloakaenkhgpaaDoorBackW
import Derived.Test.YtcloakaenkhgpaaDoorTurnP
import Derived.Test.YtcloakaenkhgpaaDoorCrcBuf
namespace Go.Proofs.YtcloakaenkhgpaaDoor.Shf
open Go.RowKit Go.Proofs.YtcloakaenkhgpaaDoor.Oct Go.Proofs.YtcloakaenkhgpaaDoor.Crc
open Go.Proofs.YtcloakaenkhgpaaDoor.Dsk (RV SV SV_length SV_append SV_one Blk info9 append_rv base_of_own)

theorem rv_drop {w : World} {b off n : Nat} {S : List ByteArray} (h : RV w (some ⟨b, off, none⟩) n 1 (SV S)) (k : Nat) (hk : k ≤ n) : RV w (some ⟨b, off + k, none⟩) (n - k) 1 (SV (S.drop k)) := by
  have hl := h.sec
  refine ⟨by rw [SV_length, List.length_drop]; omega, fun h0 => ?_⟩
  obtain ⟨b', off', e, hb, hc⟩ := h.2 (by omega)
  injection e with e
  injection e with e1 e2 e3
  subst e1 e2
  refine ⟨_, _, rfl, hb, fun i hi => ?_⟩
  rw [SV_length, List.length_drop] at hi
  rw [show off + k + i = off + (k + i) by omega, hc (k + i) (by rw [SV_length]; omega)]
  simp [SV]

theorem xor_u8 (a b : UInt8) : bits .xor .u8 (a.toNat : Int) (b.toNat : Int) = ((a ^^^ b).toNat : Int) := by
  rw [u8_xor_nat _ _ a.toNat_lt b.toNat_lt, UInt8.toNat_xor]

theorem u8_val {z : Int} (h : (Lit.int .u8 z).wf = true) : ∃ b : UInt8, z = ((b.toNat : Nat) : Int) := by
  simp [Lit.wf, IntKind.min, IntKind.max, IntKind.signed, IntKind.bits] at h
  refine ⟨UInt8.ofNat z.toNat, ?_⟩
  have e : (UInt8.ofNat z.toNat).toNat = z.toNat := by rw [UInt8.toNat_ofNat']; omega
  rw [e]; omega

theorem xor_ne {a c : UInt8} (h : c ≠ 0) : a ^^^ c ≠ a := by
  intro e
  apply h
  have : a ^^^ (a ^^^ c) = a ^^^ a := by rw [e]
  rwa [← UInt8.xor_assoc, UInt8.xor_self, UInt8.zero_xor] at this

/-- The bodies of a text, of which one has one byte that is another one. -/
def altS (L : List ByteArray) (i p : Nat) (v : UInt8) : List ByteArray := L.take i ++ [turned (L.getD i ⟨#[]⟩) p v] ++ L.drop (i + 1)

section
variable {k g n : Nat} {t : ByteArray} {i p : Nat} {v : UInt8}
theorem altS_alt (hi : i < cntN t.size) (hp : p < 52) : Alt k g n (cntN t.size) (loadT t) i p v (altS (bodiesT k g n t) i p v) := by
  have hlen : (bodiesT k g n t).length = cntN t.size := bodiesT_len
  have ht : ((bodiesT k g n t).take i).length = i := by rw [List.length_take]; omega
  have hg : (bodiesT k g n t).getD i ⟨#[]⟩ = bodyAt k g n (cntN t.size) (loadT t) i := by rw [List.getD_eq_getElem?_getD, bodiesT_at i hi]; rfl
  unfold altS
  rw [hg]
  refine ⟨hi, hp, ?_, fun j hj hji => ?_, ?_⟩
  · simp; omega
  · rcases Nat.lt_or_gt_of_ne hji with h | h
    · rw [List.append_assoc, List.getElem?_append_left (by omega), List.getElem?_take, if_pos h]
      exact bodiesT_at j hj
    · rw [List.getElem?_append_right (by simp; omega), List.getElem?_drop]
      have : i + 1 + (j - (List.take i (bodiesT k g n t) ++ [turned (bodyAt k g n (cntN t.size) (loadT t) i) p v]).length) = j := by simp; omega
      rw [this]
      exact bodiesT_at j hj
  · rw [List.append_assoc, List.getElem?_append_right (by omega), ht, Nat.sub_self]
    rfl

theorem altS_same (hi : i < cntN t.size) (hv : ((bodiesT k g n t).getD i ⟨#[]⟩).data.toList[p]? = some v) : altS (bodiesT k g n t) i p v = bodiesT k g n t := by
  have hlen : (bodiesT k g n t).length = cntN t.size := bodiesT_len
  have e : turned ((bodiesT k g n t).getD i ⟨#[]⟩) p v = (bodiesT k g n t).getD i ⟨#[]⟩ := by
    unfold turned
    apply ByteArray.ext
    apply Array.toList_inj.1
    show List.set _ p v = _
    obtain ⟨hp, rfl⟩ := List.getElem?_eq_some_iff.1 hv
    exact List.set_getElem_self hp
  unfold altS
  rw [e]
  have hg : (bodiesT k g n t).getD i ⟨#[]⟩ = (bodiesT k g n t)[i]'(by omega) := by rw [List.getD_eq_getElem?_getD, List.getElem?_eq_getElem (by omega)]; rfl
  rw [hg, List.append_assoc, List.singleton_append, ← List.drop_eq_getElem_cons (by omega), List.take_append_drop]
end

/-- What is kept: the array of two numbers, the head, the bodies. -/
structure TurnK (w wr : World) (hb : Nat) (x y : Nat) (A : Option Addr) (N : Nat) (L : List ByteArray) : Prop where
  bel : Below w.heap.size w wr
  tab : Tab wr
  arr0 : wr.cell? ⟨w.heap.size, 0, none⟩ = some (.int .u16 x)
  arr1 : wr.cell? ⟨w.heap.size, 1, none⟩ = some (.int .u16 y)
  head : Box wr hb (.int .u8 2) (.int .i64 (1 + (x : Int))) (.int .i64 y)
  rv : RV wr A N 1 (SV L)
theorem TurnK.call {w wr w' : World} {hb x y N : Nat} {A : Option Addr} {L : List ByteArray} (h : TurnK w wr hb x y A N L) (hb' : Below wr.heap.size wr w') : TurnK w w' hb x y A N L :=
  ⟨h.bel.call hb', tab_call h.tab hb', (hb'.cell (cell_lt h.arr0)).trans h.arr0, (hb'.cell (cell_lt h.arr1)).trans h.arr1, h.head.below hb' (cell_lt h.head.c0), h.rv.below hb'⟩

/-- A join's answer, as the law wants it. -/
theorem turn_join {k g n : Nat} {t : ByteArray} (h : Head k g n) (ht : (t.size : Int) ≤ 16000) {i p : Nat} (hi : i < cntN t.size) (hp : p < 52) (c : UInt8) {d : UInt8} (hd : ((bodiesT k g n t).getD i ⟨#[]⟩).data.toList[p]? = some d) :
    (c = 0 → errJ k g n (altS (bodiesT k g n t) i p (d ^^^ c)) = 0 ∧ textU (loadS (altS (bodiesT k g n t) i p (d ^^^ c))) = t ∧ ofS (altS (bodiesT k g n t) i p (d ^^^ c)) = cntN t.size) ∧ (c ≠ 0 → errJ k g n (altS (bodiesT k g n t) i p (d ^^^ c)) ≠ 0) := by
  constructor
  · rintro rfl
    rw [UInt8.xor_zero, altS_same hi hd]
    have := begins_append (k := k) (g := g) (n := n) (t := t) []
    rw [List.append_nil] at this
    exact join_back h ht this
  · intro hc
    have hg : (bodiesT k g n t).getD i ⟨#[]⟩ = bodyAt k g n (cntN t.size) (loadT t) i := by rw [List.getD_eq_getElem?_getD, bodiesT_at i hi]; rfl
    rw [hg] at hd
    exact alt_not h ht (altS_alt hi hp) (fun hh => by
      obtain ⟨_, e⟩ := List.getElem?_eq_some_iff.1 hd
      rw [e]
      exact xor_ne hc)

set_option maxRecDepth 100000 in
set_option maxHeartbeats 1000000 in
theorem turned_walk (t : ByteArray) (x y : Nat) (c : UInt8) (w : World) (hx : (x : Int) ≤ 65535) (hy : (y : Int) ≤ 65535) (hT : Tab w) :
    Calls Tryd.prog 6 #[.string t, .agg #[.int .u16 x, .int .u16 y], .int .u8 c.toNat] w fun r w' => r = .returned (.bool true) ∧ Below w.heap.size w w' := by
  have HA := Lib.hid awake_any
  have HT := Lib.hid (tab_call hT ((Below.refl _ _).push (.cells #[.int .u16 x, .int .u16 y] 54)))
  by_cases h1 : (600 : Int) < t.size
  · have hd : decide ((600 : Int) < t.size) = true := decide_eq_true h1
    clear h1 hT hx hy
    go_enter Tryd.func6, Tryd.ntmps6
    go_wp2_with (go_at_call 7; (with_reducible refine (HA.out _ HT.out).mono ?_); rintro r w1 ⟨rfl, b1⟩; have HB1 := Lib.hid (((Below.refl _ w).push _).call b1); clear b1)
    go_ret
    exact ⟨rfl, HB1.out⟩
  · have hd : decide ((600 : Int) < t.size) = false := decide_eq_false h1
    have ht : (t.size : Int) ≤ 16000 := by omega
    have hh : Head 2 (1 + x) y := ⟨by omega, by omega, by omega, by omega⟩
    have HH : Hid (∀ W, Calls Tryd.prog 21 #[.int .u8 2, .int .u16 x, .int .u16 y] W fun r w' => r = .returned (.agg #[.int .u8 2, .int .i64 (1 + (x : Int)), .int .i64 y]) ∧ Below W.heap.size W w') := Lib.hid (fun W => head_any 2 x y W hx hy)
    have HL : Hid (∀ W, Tab W → Calls Tryd.prog 8 #[.agg #[.int .u8 2, .int .i64 (1 + (x : Int)), .int .i64 y], .string t] W fun r w' => ∃ A c, r = .returned (.tuple #[.slice A (cntN t.size) c, .int .i64 0]) ∧ RV w' A (cntN t.size) 1 (SV (bodiesT 2 (1 + x) y t)) ∧ Below W.heap.size W w' ∧ cntN t.size ≤ c) := Lib.hid (fun W h => by
      have := lay_ok (w := W) (t := t) hh ht h
      rw [show ((1 + x : Nat) : Int) = 1 + (x : Int) by omega] at this
      exact this)
    have hN0 := cnt_pos t
    obtain ⟨i, ei, hi⟩ : ∃ i : Nat, (x : Int) % (cntN t.size : Int) = i ∧ i < cntN t.size := ⟨x % cntN t.size, by omega, Nat.mod_lt _ hN0⟩
    obtain ⟨p, ep, hp⟩ : ∃ p : Nat, (y : Int) % 52 = p ∧ p < 52 := ⟨y % 52, by omega, Nat.mod_lt _ (by omega)⟩
    have hNb : (cntN t.size : Int) ≤ 100 := by unfold cntN; omega
    have hLl : (bodiesT 2 (1 + x) y t).length = cntN t.size := bodiesT_len
    obtain ⟨s, hsL, hss⟩ : ∃ s, (bodiesT 2 (1 + x) y t).getD i ⟨#[]⟩ = s ∧ s.size = 52 := ⟨_, rfl, by rw [List.getD_eq_getElem?_getD, bodiesT_at i hi]; exact at_size (loadT_size t) hi⟩
    have hpl : p < s.data.toList.length := by have : s.data.toList.length = s.size := rfl; omega
    obtain ⟨d, hdl⟩ : ∃ d, s.data.toList[p] = d := ⟨_, rfl⟩
    have hJ := turn_join hh ht hi hp c (d := d) (by rw [hsL, List.getElem?_eq_getElem hpl, hdl])
    have HJ1 : Hid (c = 0 → ∀ W A cc, Tab W → RV W A (altS (bodiesT 2 (1 + x) y t) i p (d ^^^ c)).length 1 (SV (altS (bodiesT 2 (1 + x) y t) i p (d ^^^ c))) → Calls Tryd.prog 16 #[.agg #[.int .u8 2, .int .i64 (1 + (x : Int)), .int .i64 y], .slice A (altS (bodiesT 2 (1 + x) y t) i p (d ^^^ c)).length cc] W fun r w' => r = .returned (.tuple #[.string t, .int .i64 (cntN t.size), .int .i64 0]) ∧ Below W.heap.size W w') := Lib.hid (fun hc W A cc hT hR => by
      obtain ⟨e1, e2, e3⟩ := hJ.1 hc
      have := join_ok (c := cc) hR hT e1 e2 e3
      rw [show ((1 + x : Nat) : Int) = 1 + (x : Int) by omega] at this
      exact this)
    have HJ2 : Hid (c ≠ 0 → ∃ e : Int, ¬ e = 0 ∧ ∀ W A cc, Tab W → RV W A (altS (bodiesT 2 (1 + x) y t) i p (d ^^^ c)).length 1 (SV (altS (bodiesT 2 (1 + x) y t) i p (d ^^^ c))) → Calls Tryd.prog 16 #[.agg #[.int .u8 2, .int .i64 (1 + (x : Int)), .int .i64 y], .slice A (altS (bodiesT 2 (1 + x) y t) i p (d ^^^ c)).length cc] W fun r w' => r = .returned (.tuple #[.string ⟨#[]⟩, .int .i64 0, .int .i64 e]) ∧ Below W.heap.size W w') := Lib.hid (fun hc => ⟨_, hJ.2 hc, fun W A cc hT hR => by
      have := join_no (c := cc) hR hT rfl (hJ.2 hc)
      rw [show ((1 + x : Nat) : Int) = 1 + (x : Int) by omega] at this
      exact this⟩)
    have HAL : Hid (altS (bodiesT 2 (1 + x) y t) i p (d ^^^ c) = (bodiesT 2 (1 + x) y t).take i ++ [turned s p (d ^^^ c)] ++ (bodiesT 2 (1 + x) y t).drop (i + 1)) := Lib.hid (by unfold altS; rw [hsL])
    have hsI : (bodiesT 2 (1 + x) y t)[i]? = some s := by rw [← hsL, List.getD_eq_getElem?_getD, List.getElem?_eq_getElem (by omega)]; rfl
    clear hT h1 hh ht hJ hsL
    generalize altS (bodiesT 2 (1 + x) y t) i p (d ^^^ c) = S at *
    generalize cntN t.size = N at *
    generalize bodiesT 2 (1 + x) y t = L at *
    go_enter Tryd.func6, Tryd.ntmps6
    go_wp2_with fail
    with_reducible refine (HH.out _).mono ?_
    rintro r w1 ⟨rfl, b1⟩
    have a0 : w1.cell? ⟨w.heap.size, 0, none⟩ = some (.int .u16 x) := by rw [b1.cell (p := ⟨w.heap.size, 0, none⟩) (by simp)]; simp [go_sem]
    have a1 : w1.cell? ⟨w.heap.size, 1, none⟩ = some (.int .u16 y) := by rw [b1.cell (p := ⟨w.heap.size, 1, none⟩) (by simp)]; simp [go_sem]
    have HB1 := Lib.hid (((Below.refl _ w).push _).call b1)
    have HT1 := Lib.hid (tab_call HT.out b1)
    clear b1 HT
    go_wp2_with fail
    with_reducible refine (HL.out _ (tab_call HT1.out ((Below.refl _ _).push _))).mono ?_
    rintro r w2 ⟨A, c2, rfl, hR2, b2, hcap⟩
    have hP : Below w1.heap.size w1 (w1.alloc (.cells #[.int .u8 2, .int .i64 (1 + (x : Int)), .int .i64 y] 29)) := (Below.refl _ _).push _
    have hQ : Below w1.heap.size w1 w2 := hP.call b2
    have HK2 : Hid (TurnK w w2 w1.heap.size x y A N L) := Lib.hid ⟨HB1.out.call hQ, tab_call HT1.out hQ, (hQ.cell (cell_lt a0)).trans a0, (hQ.cell (cell_lt a1)).trans a1, (Box.new w1 (.int .u8 2) (.int .i64 (1 + (x : Int))) (.int .i64 y) 29).below b2 (by simp), hR2⟩
    obtain ⟨b, off, rfl, hlb, hcs⟩ := hR2.2 hN0
    have hsc : w2.cell? ⟨b, off + i, none⟩ = some (.string s) := by
      have e := hcs i (by rw [SV_length]; omega)
      rw [e]
      obtain ⟨_, e2⟩ := List.getElem?_eq_some_iff.1 hsI
      simp [SV, e2]
    have HCAP := Lib.hid hcap
    have a0' := HK2.out.arr0
    have a1' := HK2.out.arr1
    clear hcap HT1 HB1 hR2 b2 HL HH a0 a1 hP hQ hcs
    generalize w1.heap.size = hb at *
    have g0 : ((N : Int) == 0) = false := by simp; omega
    obtain ⟨cap, w3, hrun, hbuf, hbel⟩ := conv_to s w2
    have g1 : ((s.size : Int) != 52) = false := by rw [hss]; rfl
    go_upto_region 11 with fail
    have HK3 := Lib.hid (HK2.out.call hbel)
    have c1 := hbuf.cell hpl
    rw [hdl] at c1
    have f1 := hbuf.live hpl
    have HBU := Lib.hid (hbuf.set hpl (d ^^^ c))
    have a3 := HK3.out.arr1
    have hx8 := xor_u8 d c
    generalize d ^^^ c = e at *
    have hpi : (p : Int) < 52 := by omega
    have hgl : w2.heap.size < w3.heap.size := hbuf.lt
    have HW3 := Lib.hid hbel
    have HGE := Lib.hid HK2.out.bel.size
    clear hrun hbuf hbel a0' a1' hsc
    go_upto_region 12 with fail
    have HB4 := Lib.hid (HW3.out.setCell (p := ⟨w2.heap.size, p, none⟩) (Nat.le_refl _) (.int .u8 e.toNat))
    have HK4 := Lib.hid (HK2.out.call HB4.out)
    generalize w3.setCell ⟨w2.heap.size, p, none⟩ (.int .u8 e.toNat) = w4 at *
    have hll : (s.data.toList.set p e).length = s.size := by rw [List.length_set]; rfl
    have hg4 : w2.heap.size < w4.heap.size := HBU.out.lt
    obtain ⟨v1, w5, hap1, hI1⟩ := (InvA.start w4).more c2 (rv_take HK4.out.rv i (by omega)) (by simp; omega)
    rw [List.nil_append] at hI1
    have hcv := conv_back (cap := cap) (HBU.out.below hI1.bel hg4)
    rw [hll, show (⟨(s.data.toList.set p e).toArray⟩ : ByteArray) = turned s p e from rfl, hss] at hcv
    obtain ⟨v2, w6, hap2, hI2⟩ := hI1.one (turned s p e) (by rw [List.length_take]; omega)
    have HM3 : Hid (∀ v' w', Go.Proofs.YtcloakaenkhgpaaDoor.Shf.InvA w4 w' v' (L.take i ++ [turned s p e] ++ L.drop (i + 1)) → InvA w4 w' v' S) := Lib.hid (fun v' w' h => by rw [HAL.out]; exact h)
    have HRD := Lib.hid (rv_drop (HK4.out.rv.below hI2.bel) (i + 1) (by omega))
    have HI2 := Lib.hid hI2
    have HP1 := Lib.hid hap1
    have HP2 := Lib.hid hap2
    have HK4' := HK4
    have n1 : (i : Int) ≤ c2 := by have := HCAP.out; omega
    have n2 : (i : Int) + 1 ≤ N := by omega
    have n3 : (N : Int) ≤ c2 := by have := HCAP.out; omega
    clear hap1 hap2 hI1 hI2 HK2 HK3 HK4 HB4 HW3 HBU HAL c1 f1 a3 hx8 hgl hg4 hll hpl hdl
    generalize turned s p e = X at *
    rw [ei]
    clear ei
    go_upto_region 14 with (at_builtin; refine wpList_append_run rfl (.tmp 64) (.tmp 67) 25 25 rfl _ _ rfl rfl v1 w5 HP1.out ?_)
    go_upto_region 15 with (at_builtin; refine wpList_append_run rfl (.tmp 69) (.tmp 72) 25 25 rfl _ _ rfl rfl v2 w6 HP2.out ?_)
    go_cut [12] (fun s12 wx => ∃ v, s12 = v ∧ Hid (InvA w4 wx v S))
    case first =>
      by_cases hce : c2 = i + 1
      · obtain rfl : N = i + 1 := by omega
        subst hce
        obtain ⟨v3, w7, hap3, hI3⟩ := HI2.out.more 0 (A := some ⟨b, off, none⟩) (T := []) (RV.nil w6 _ 1) (by simp; omega)
        have hnil : L.drop (i + 1) = [] := List.drop_of_length_le (by omega)
        have HI3 := Lib.hid (HM3.out v3 w7 (by rw [hnil]; exact hI3))
        have HP3 := Lib.hid hap3
        clear hap3 hI3 hnil HP1 HP2 hcv HJ1 HJ2
        go_wp2_with (at_builtin; refine wpList_append_run rfl (.tmp 74) (.tmp 78) 25 25 rfl _ _ rfl rfl v3 w7 HP3.out ?_)
        go_meet
        exact ⟨_, rfl, HI3⟩
      · obtain ⟨v3, w7, hap3, hI3⟩ := HI2.out.more (c2 - (i + 1)) HRD.out (by simp; omega)
        have HI3 := Lib.hid (HM3.out v3 w7 hI3)
        have HP3 := Lib.hid hap3
        have z1 : ¬ c2 - (i + 1) = 0 := by omega
        have z2 : i + 1 < c2 := by omega
        clear hap3 hI3 HP1 HP2 hcv HJ1 HJ2
        go_wp2_with (at_builtin; refine wpList_append_run rfl (.tmp 74) (.tmp 78) 25 25 rfl _ _ rfl rfl v3 w7 HP3.out ?_)
        go_meet
        exact ⟨_, rfl, HI3⟩
    case rest =>
      obtain ⟨v, rfl, HI3⟩ := hcut
      have HK7 := Lib.hid (HK4'.out.call HI3.out.bel)
      obtain ⟨A3, c3, rfl, hR3⟩ := HI3.out.val
      have HR3 := Lib.hid hR3
      obtain ⟨h0, h1, h2, -, -, -⟩ := HK7.out.head
      clear HP1 HP2 hcv HM3 HRD HI2 HK4' hR3 n1 n2 n3 HI3
      by_cases hc0 : c = 0
      · have HJ := Lib.hid (HJ1.out hc0)
        subst hc0
        clear HJ1 HJ2
        have hq := str_eq t
        go_wp2_with fail
        with_reducible refine (HJ.out _ _ _ HK7.out.tab HR3.out).mono ?_
        rintro r w8 ⟨rfl, b8⟩
        have HK8 := Lib.hid (HK7.out.call b8)
        have HB8 := Lib.hid HK8.out.bel
        have HT8 := Lib.hid HK8.out.tab
        clear b8 HK7 HR3 HJ HK8 h0 h1 h2
        go_wp2_with (go_at_call 7; (with_reducible refine (HA.out _ HT8.out).mono ?_); rintro r w9 ⟨rfl, b9⟩; have HB9 := Lib.hid (HB8.out.call b9); clear b9)
        go_ret
        exact ⟨rfl, HB9.out⟩
      · obtain ⟨er, he, hJ⟩ := HJ2.out hc0
        have HJ := Lib.hid hJ
        have hcn : ((c.toNat : Int) == 0) = false := by
          rw [beq_eq_false_iff_ne]
          intro e0
          exact hc0 (UInt8.toNat_inj.1 (by rw [show (0 : UInt8).toNat = 0 from rfl]; omega))
        have hen : (er != 0) = true := by simpa using he
        have hq := str_eq (⟨#[]⟩ : ByteArray)
        clear HJ1 HJ2 hJ
        go_wp2_with fail
        with_reducible refine (HJ.out _ _ _ HK7.out.tab HR3.out).mono ?_
        rintro r w8 ⟨rfl, b8⟩
        have HK8 := Lib.hid (HK7.out.call b8)
        have HB8 := Lib.hid HK8.out.bel
        have HT8 := Lib.hid HK8.out.tab
        clear b8 HK7 HR3 HJ HK8 h0 h1 h2
        go_wp2_with (go_at_call 7; (with_reducible refine (HA.out _ HT8.out).mono ?_); rintro r w9 ⟨rfl, b9⟩; have HB9 := Lib.hid (HB8.out.call b9); clear b9)
        go_ret
        exact ⟨rfl, HB9.out⟩

end Go.Proofs.YtcloakaenkhgpaaDoor.Shf
