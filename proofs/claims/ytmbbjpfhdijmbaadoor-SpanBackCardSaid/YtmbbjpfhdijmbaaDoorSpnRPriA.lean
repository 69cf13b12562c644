/- Contracts of the document's Print (first half). -/
import Derived.Test.YtmbbjpfhdijmbaaDoorSpnTxt
import Derived.Test.YtmbbjpfhdijmbaaDoorSpnPri
namespace Go.Proofs.YtmbbjpfhdijmbaaDoor.Spn
open Go.RowKit
set_option linter.unusedVariables false

theorem pt_some {k : Int} {c : UInt8} (h : ¬ k = 0) : pt k c = dec k ++ [c] := if_neg h
theorem pt_zero {c : UInt8} : pt 0 c = [] := if_pos rfl
theorem dec_size {k : Int} (h0 : 0 ≤ k) (h1 : k ≤ 999999) : (ByteArray.mk (dec k).toArray).size ≤ 6 := by rw [size_mk]; exact (dec_len h0 h1).2
theorem bd_rest {m : Int} (h : ¬ m % 604800 = 0) : bdL m = pt (m / 86400) 68 ++ tmL (m % 86400) := if_neg h
theorem tm_some {r : Int} (h : ¬ r = 0) : tmL r = 84 :: (pt (r / 3600) 72 ++ pt (r % 3600 / 60) 77 ++ pt (r % 60) 83) := if_neg h
theorem tm_zero : tmL 0 = [] := if_pos rfl
theorem min_eq {r : Int} (h0 : 0 ≤ r) (h1 : r < 86400) : r % 3600 / 60 = r / 60 % 60 := by omega
theorem rprint_posA (m : Int) (h0 : 0 < m) (h1 : m ≤ 86399913600) (h : m % 604800 = 0) (w : World) :
    Calls Tryd.prog 13 #[.int .i64 m] w fun r w' => r = .returned (.tuple #[.string ⟨([80] ++ bdL m).toArray⟩, .int .i64 0]) ∧ Below w.heap.size w w' := by
  have q0 : 0 ≤ m / 604800 := by omega
  have q1 : m / 604800 ≤ 999999 := by omega
  have e : ByteArray.mk ([80] ++ bdL m).toArray = (ByteArray.mk #[80] ++ ByteArray.mk (dec (m / 604800)).toArray) ++ ByteArray.mk #[87] := by
    simp only [mk_app]
    unfold bdL
    rw [if_pos h]
    simp
  rw [e]
  clear e
  have HD := Lib.hid (fun W => rtext_any (m / 604800) q0 q1 W)
  have z1 := dec_size q0 q1
  generalize ByteArray.mk (dec (m / 604800)).toArray = td at *
  generalize hq : m / 604800 = q at *
  go_enter Tryd.func13, Tryd.ntmps13
  go_wp2_with (go_at_call 26; with_reducible refine (HD.out _).mono ?_; rintro e w1 ⟨rfl, hb⟩; have B1 := Lib.hid hb; clear hb)
  go_ret2
  exact ⟨rfl, B1.out⟩

theorem rprint_posD1Z (m : Int) (h0 : 0 < m) (h1 : m ≤ 86399913600) (h : ¬ m % 604800 = 0) (c1 : 86400 ≤ m) (c2 : m % 86400 = 0) (w : World) :
    Calls Tryd.prog 13 #[.int .i64 m] w fun r w' => r = .returned (.tuple #[.string ⟨([80] ++ bdL m).toArray⟩, .int .i64 0]) ∧ Below w.heap.size w w' := by
  have e : ByteArray.mk ([80] ++ bdL m).toArray = (ByteArray.mk #[80] ++ (ByteArray.mk (dec (m / 86400)).toArray ++ ByteArray.mk #[68])) := by
    simp only [mk_app]
    rw [bd_rest h, pt_some (c := 68) (show ¬ m / 86400 = 0 by omega), c2, tm_zero]
    simp
  rw [e]
  clear e
  have d0 : 0 ≤ m / 86400 := by omega
  have d1 : m / 86400 ≤ 999999 := by omega
  have HD := Lib.hid (fun W => rtext_any (m / 86400) d0 d1 W)
  have zd := dec_size d0 d1
  generalize ByteArray.mk (dec (m / 86400)).toArray = td at *
  generalize hq : m / 86400 = q at *
  go_enter Tryd.func13, Tryd.ntmps13
  go_wp2_with (first
    | (go_at_call 26; with_reducible refine (HD.out _).mono ?_; rintro e w1 ⟨rfl, hb⟩; have B1 := Lib.hid ((Bl.refl w).call hb); clear hb))
  go_ret2
  exact ⟨rfl, B1.out.below⟩

theorem rprint_posD0T001 (m : Int) (h0 : 0 < m) (h1 : m ≤ 86399913600) (h : ¬ m % 604800 = 0) (c1 : m < 86400) (c2 : 0 < m % 86400) (c3 : m % 86400 < 3600) (c4 : m % 86400 / 60 % 60 = 0) (c5 : 0 < m % 86400 % 60) (w : World) :
    Calls Tryd.prog 13 #[.int .i64 m] w fun r w' => r = .returned (.tuple #[.string ⟨([80] ++ bdL m).toArray⟩, .int .i64 0]) ∧ Below w.heap.size w w' := by
  have e : ByteArray.mk ([80] ++ bdL m).toArray = ((ByteArray.mk #[80] ++ ByteArray.mk #[84]) ++ (ByteArray.mk (dec (m % 86400 % 60)).toArray ++ ByteArray.mk #[83])) := by
    simp only [mk_app]
    rw [bd_rest h, show m / 86400 = 0 by omega, pt_zero, tm_some (by omega), min_eq (by omega) (by omega), show m % 86400 / 3600 = 0 by omega, pt_zero, c4, pt_zero, pt_some (c := 83) (show ¬ m % 86400 % 60 = 0 by omega)]
    simp
  rw [e]
  clear e
  have r1 : m % 86400 < 86400 := by omega
  generalize hr : m % 86400 = r at *
  have ss0 : 0 ≤ r % 60 := by omega
  have ss1 : r % 60 ≤ 999999 := by omega
  have HS := Lib.hid (fun W => rtext_any (r % 60) ss0 ss1 W)
  have zss := dec_size ss0 ss1
  generalize ByteArray.mk (dec (r % 60)).toArray = ts at *
  have u0 : 0 ≤ r / 60 := by omega
  generalize hu : r / 60 = u at *
  generalize hsv : r % 60 = sv at *
  go_enter Tryd.func13, Tryd.ntmps13
  go_wp2_with (first
    | (go_at_call 26; with_reducible refine (HS.out _).mono ?_; rintro e w1 ⟨rfl, hb⟩; have B1 := Lib.hid ((Bl.refl w).call hb); clear hb))
  go_ret2
  exact ⟨rfl, B1.out.below⟩

theorem rprint_posD0T010 (m : Int) (h0 : 0 < m) (h1 : m ≤ 86399913600) (h : ¬ m % 604800 = 0) (c1 : m < 86400) (c2 : 0 < m % 86400) (c3 : m % 86400 < 3600) (c4 : 0 < m % 86400 / 60 % 60) (c5 : m % 86400 % 60 = 0) (w : World) :
    Calls Tryd.prog 13 #[.int .i64 m] w fun r w' => r = .returned (.tuple #[.string ⟨([80] ++ bdL m).toArray⟩, .int .i64 0]) ∧ Below w.heap.size w w' := by
  have e : ByteArray.mk ([80] ++ bdL m).toArray = ((ByteArray.mk #[80] ++ ByteArray.mk #[84]) ++ (ByteArray.mk (dec (m % 86400 / 60 % 60)).toArray ++ ByteArray.mk #[77])) := by
    simp only [mk_app]
    rw [bd_rest h, show m / 86400 = 0 by omega, pt_zero, tm_some (by omega), min_eq (by omega) (by omega), show m % 86400 / 3600 = 0 by omega, pt_zero, pt_some (c := 77) (show ¬ m % 86400 / 60 % 60 = 0 by omega), c5, pt_zero]
    simp
  rw [e]
  clear e
  have r1 : m % 86400 < 86400 := by omega
  generalize hr : m % 86400 = r at *
  have mm0 : 0 ≤ r / 60 % 60 := by omega
  have mm1 : r / 60 % 60 ≤ 999999 := by omega
  have HM := Lib.hid (fun W => rtext_any (r / 60 % 60) mm0 mm1 W)
  have zmm := dec_size mm0 mm1
  generalize ByteArray.mk (dec (r / 60 % 60)).toArray = tm at *
  have u0 : 0 ≤ r / 60 := by omega
  generalize hu : r / 60 = u at *
  generalize hmv : u % 60 = mv at *
  go_enter Tryd.func13, Tryd.ntmps13
  go_wp2_with (first
    | (go_at_call 26; with_reducible refine (HM.out _).mono ?_; rintro e w1 ⟨rfl, hb⟩; have B1 := Lib.hid ((Bl.refl w).call hb); clear hb))
  go_ret2
  exact ⟨rfl, B1.out.below⟩

theorem rprint_posD0T011 (m : Int) (h0 : 0 < m) (h1 : m ≤ 86399913600) (h : ¬ m % 604800 = 0) (c1 : m < 86400) (c2 : 0 < m % 86400) (c3 : m % 86400 < 3600) (c4 : 0 < m % 86400 / 60 % 60) (c5 : 0 < m % 86400 % 60) (w : World) :
    Calls Tryd.prog 13 #[.int .i64 m] w fun r w' => r = .returned (.tuple #[.string ⟨([80] ++ bdL m).toArray⟩, .int .i64 0]) ∧ Below w.heap.size w w' := by
  have e : ByteArray.mk ([80] ++ bdL m).toArray = (((ByteArray.mk #[80] ++ ByteArray.mk #[84]) ++ (ByteArray.mk (dec (m % 86400 / 60 % 60)).toArray ++ ByteArray.mk #[77])) ++ (ByteArray.mk (dec (m % 86400 % 60)).toArray ++ ByteArray.mk #[83])) := by
    simp only [mk_app]
    rw [bd_rest h, show m / 86400 = 0 by omega, pt_zero, tm_some (by omega), min_eq (by omega) (by omega), show m % 86400 / 3600 = 0 by omega, pt_zero, pt_some (c := 77) (show ¬ m % 86400 / 60 % 60 = 0 by omega), pt_some (c := 83) (show ¬ m % 86400 % 60 = 0 by omega)]
    simp
  rw [e]
  clear e
  have r1 : m % 86400 < 86400 := by omega
  generalize hr : m % 86400 = r at *
  have mm0 : 0 ≤ r / 60 % 60 := by omega
  have mm1 : r / 60 % 60 ≤ 999999 := by omega
  have HM := Lib.hid (fun W => rtext_any (r / 60 % 60) mm0 mm1 W)
  have zmm := dec_size mm0 mm1
  generalize ByteArray.mk (dec (r / 60 % 60)).toArray = tm at *
  have ss0 : 0 ≤ r % 60 := by omega
  have ss1 : r % 60 ≤ 999999 := by omega
  have HS := Lib.hid (fun W => rtext_any (r % 60) ss0 ss1 W)
  have zss := dec_size ss0 ss1
  generalize ByteArray.mk (dec (r % 60)).toArray = ts at *
  have u0 : 0 ≤ r / 60 := by omega
  generalize hu : r / 60 = u at *
  generalize hmv : u % 60 = mv at *
  generalize hsv : r % 60 = sv at *
  go_enter Tryd.func13, Tryd.ntmps13
  go_wp2_with (first
    | (go_at_call 26; with_reducible refine (HM.out _).mono ?_; rintro e w1 ⟨rfl, hb⟩; have B1 := Lib.hid ((Bl.refl w).call hb); clear hb)
    | (go_at_call 26; with_reducible refine (HS.out _).mono ?_; rintro e w2 ⟨rfl, hb⟩; have B2 := Lib.hid (B1.out.call hb); clear hb))
  go_ret2
  exact ⟨rfl, B2.out.below⟩

theorem rprint_posD0T100 (m : Int) (h0 : 0 < m) (h1 : m ≤ 86399913600) (h : ¬ m % 604800 = 0) (c1 : m < 86400) (c2 : 0 < m % 86400) (c3 : 3600 ≤ m % 86400) (c4 : m % 86400 / 60 % 60 = 0) (c5 : m % 86400 % 60 = 0) (w : World) :
    Calls Tryd.prog 13 #[.int .i64 m] w fun r w' => r = .returned (.tuple #[.string ⟨([80] ++ bdL m).toArray⟩, .int .i64 0]) ∧ Below w.heap.size w w' := by
  have e : ByteArray.mk ([80] ++ bdL m).toArray = ((ByteArray.mk #[80] ++ ByteArray.mk #[84]) ++ (ByteArray.mk (dec (m % 86400 / 3600)).toArray ++ ByteArray.mk #[72])) := by
    simp only [mk_app]
    rw [bd_rest h, show m / 86400 = 0 by omega, pt_zero, tm_some (by omega), min_eq (by omega) (by omega), pt_some (c := 72) (show ¬ m % 86400 / 3600 = 0 by omega), c4, pt_zero, c5, pt_zero]
    simp
  rw [e]
  clear e
  have r1 : m % 86400 < 86400 := by omega
  generalize hr : m % 86400 = r at *
  have hh0 : 0 ≤ r / 3600 := by omega
  have hh1 : r / 3600 ≤ 999999 := by omega
  have HH := Lib.hid (fun W => rtext_any (r / 3600) hh0 hh1 W)
  have zhh := dec_size hh0 hh1
  generalize ByteArray.mk (dec (r / 3600)).toArray = th at *
  generalize hh : r / 3600 = hv at *
  have u0 : 0 ≤ r / 60 := by omega
  generalize hu : r / 60 = u at *
  go_enter Tryd.func13, Tryd.ntmps13
  go_wp2_with (first
    | (go_at_call 26; with_reducible refine (HH.out _).mono ?_; rintro e w1 ⟨rfl, hb⟩; have B1 := Lib.hid ((Bl.refl w).call hb); clear hb))
  go_ret2
  exact ⟨rfl, B1.out.below⟩

theorem rprint_posD0T101 (m : Int) (h0 : 0 < m) (h1 : m ≤ 86399913600) (h : ¬ m % 604800 = 0) (c1 : m < 86400) (c2 : 0 < m % 86400) (c3 : 3600 ≤ m % 86400) (c4 : m % 86400 / 60 % 60 = 0) (c5 : 0 < m % 86400 % 60) (w : World) :
    Calls Tryd.prog 13 #[.int .i64 m] w fun r w' => r = .returned (.tuple #[.string ⟨([80] ++ bdL m).toArray⟩, .int .i64 0]) ∧ Below w.heap.size w w' := by
  have e : ByteArray.mk ([80] ++ bdL m).toArray = (((ByteArray.mk #[80] ++ ByteArray.mk #[84]) ++ (ByteArray.mk (dec (m % 86400 / 3600)).toArray ++ ByteArray.mk #[72])) ++ (ByteArray.mk (dec (m % 86400 % 60)).toArray ++ ByteArray.mk #[83])) := by
    simp only [mk_app]
    rw [bd_rest h, show m / 86400 = 0 by omega, pt_zero, tm_some (by omega), min_eq (by omega) (by omega), pt_some (c := 72) (show ¬ m % 86400 / 3600 = 0 by omega), c4, pt_zero, pt_some (c := 83) (show ¬ m % 86400 % 60 = 0 by omega)]
    simp
  rw [e]
  clear e
  have r1 : m % 86400 < 86400 := by omega
  generalize hr : m % 86400 = r at *
  have hh0 : 0 ≤ r / 3600 := by omega
  have hh1 : r / 3600 ≤ 999999 := by omega
  have HH := Lib.hid (fun W => rtext_any (r / 3600) hh0 hh1 W)
  have zhh := dec_size hh0 hh1
  generalize ByteArray.mk (dec (r / 3600)).toArray = th at *
  have ss0 : 0 ≤ r % 60 := by omega
  have ss1 : r % 60 ≤ 999999 := by omega
  have HS := Lib.hid (fun W => rtext_any (r % 60) ss0 ss1 W)
  have zss := dec_size ss0 ss1
  generalize ByteArray.mk (dec (r % 60)).toArray = ts at *
  generalize hh : r / 3600 = hv at *
  have u0 : 0 ≤ r / 60 := by omega
  generalize hu : r / 60 = u at *
  generalize hsv : r % 60 = sv at *
  go_enter Tryd.func13, Tryd.ntmps13
  go_wp2_with (first
    | (go_at_call 26; with_reducible refine (HH.out _).mono ?_; rintro e w1 ⟨rfl, hb⟩; have B1 := Lib.hid ((Bl.refl w).call hb); clear hb)
    | (go_at_call 26; with_reducible refine (HS.out _).mono ?_; rintro e w2 ⟨rfl, hb⟩; have B2 := Lib.hid (B1.out.call hb); clear hb))
  go_ret2
  exact ⟨rfl, B2.out.below⟩

theorem rprint_posD0T110 (m : Int) (h0 : 0 < m) (h1 : m ≤ 86399913600) (h : ¬ m % 604800 = 0) (c1 : m < 86400) (c2 : 0 < m % 86400) (c3 : 3600 ≤ m % 86400) (c4 : 0 < m % 86400 / 60 % 60) (c5 : m % 86400 % 60 = 0) (w : World) :
    Calls Tryd.prog 13 #[.int .i64 m] w fun r w' => r = .returned (.tuple #[.string ⟨([80] ++ bdL m).toArray⟩, .int .i64 0]) ∧ Below w.heap.size w w' := by
  have e : ByteArray.mk ([80] ++ bdL m).toArray = (((ByteArray.mk #[80] ++ ByteArray.mk #[84]) ++ (ByteArray.mk (dec (m % 86400 / 3600)).toArray ++ ByteArray.mk #[72])) ++ (ByteArray.mk (dec (m % 86400 / 60 % 60)).toArray ++ ByteArray.mk #[77])) := by
    simp only [mk_app]
    rw [bd_rest h, show m / 86400 = 0 by omega, pt_zero, tm_some (by omega), min_eq (by omega) (by omega), pt_some (c := 72) (show ¬ m % 86400 / 3600 = 0 by omega), pt_some (c := 77) (show ¬ m % 86400 / 60 % 60 = 0 by omega), c5, pt_zero]
    simp
  rw [e]
  clear e
  have r1 : m % 86400 < 86400 := by omega
  generalize hr : m % 86400 = r at *
  have hh0 : 0 ≤ r / 3600 := by omega
  have hh1 : r / 3600 ≤ 999999 := by omega
  have HH := Lib.hid (fun W => rtext_any (r / 3600) hh0 hh1 W)
  have zhh := dec_size hh0 hh1
  generalize ByteArray.mk (dec (r / 3600)).toArray = th at *
  have mm0 : 0 ≤ r / 60 % 60 := by omega
  have mm1 : r / 60 % 60 ≤ 999999 := by omega
  have HM := Lib.hid (fun W => rtext_any (r / 60 % 60) mm0 mm1 W)
  have zmm := dec_size mm0 mm1
  generalize ByteArray.mk (dec (r / 60 % 60)).toArray = tm at *
  generalize hh : r / 3600 = hv at *
  have u0 : 0 ≤ r / 60 := by omega
  generalize hu : r / 60 = u at *
  generalize hmv : u % 60 = mv at *
  go_enter Tryd.func13, Tryd.ntmps13
  go_wp2_with (first
    | (go_at_call 26; with_reducible refine (HH.out _).mono ?_; rintro e w1 ⟨rfl, hb⟩; have B1 := Lib.hid ((Bl.refl w).call hb); clear hb)
    | (go_at_call 26; with_reducible refine (HM.out _).mono ?_; rintro e w2 ⟨rfl, hb⟩; have B2 := Lib.hid (B1.out.call hb); clear hb))
  go_ret2
  exact ⟨rfl, B2.out.below⟩

theorem rprint_posD0T111 (m : Int) (h0 : 0 < m) (h1 : m ≤ 86399913600) (h : ¬ m % 604800 = 0) (c1 : m < 86400) (c2 : 0 < m % 86400) (c3 : 3600 ≤ m % 86400) (c4 : 0 < m % 86400 / 60 % 60) (c5 : 0 < m % 86400 % 60) (w : World) :
    Calls Tryd.prog 13 #[.int .i64 m] w fun r w' => r = .returned (.tuple #[.string ⟨([80] ++ bdL m).toArray⟩, .int .i64 0]) ∧ Below w.heap.size w w' := by
  have e : ByteArray.mk ([80] ++ bdL m).toArray = ((((ByteArray.mk #[80] ++ ByteArray.mk #[84]) ++ (ByteArray.mk (dec (m % 86400 / 3600)).toArray ++ ByteArray.mk #[72])) ++ (ByteArray.mk (dec (m % 86400 / 60 % 60)).toArray ++ ByteArray.mk #[77])) ++ (ByteArray.mk (dec (m % 86400 % 60)).toArray ++ ByteArray.mk #[83])) := by
    simp only [mk_app]
    rw [bd_rest h, show m / 86400 = 0 by omega, pt_zero, tm_some (by omega), min_eq (by omega) (by omega), pt_some (c := 72) (show ¬ m % 86400 / 3600 = 0 by omega), pt_some (c := 77) (show ¬ m % 86400 / 60 % 60 = 0 by omega), pt_some (c := 83) (show ¬ m % 86400 % 60 = 0 by omega)]
    simp
  rw [e]
  clear e
  have r1 : m % 86400 < 86400 := by omega
  generalize hr : m % 86400 = r at *
  have hh0 : 0 ≤ r / 3600 := by omega
  have hh1 : r / 3600 ≤ 999999 := by omega
  have HH := Lib.hid (fun W => rtext_any (r / 3600) hh0 hh1 W)
  have zhh := dec_size hh0 hh1
  generalize ByteArray.mk (dec (r / 3600)).toArray = th at *
  have mm0 : 0 ≤ r / 60 % 60 := by omega
  have mm1 : r / 60 % 60 ≤ 999999 := by omega
  have HM := Lib.hid (fun W => rtext_any (r / 60 % 60) mm0 mm1 W)
  have zmm := dec_size mm0 mm1
  generalize ByteArray.mk (dec (r / 60 % 60)).toArray = tm at *
  have ss0 : 0 ≤ r % 60 := by omega
  have ss1 : r % 60 ≤ 999999 := by omega
  have HS := Lib.hid (fun W => rtext_any (r % 60) ss0 ss1 W)
  have zss := dec_size ss0 ss1
  generalize ByteArray.mk (dec (r % 60)).toArray = ts at *
  generalize hh : r / 3600 = hv at *
  have u0 : 0 ≤ r / 60 := by omega
  generalize hu : r / 60 = u at *
  generalize hmv : u % 60 = mv at *
  generalize hsv : r % 60 = sv at *
  go_enter Tryd.func13, Tryd.ntmps13
  go_wp2_with (first
    | (go_at_call 26; with_reducible refine (HH.out _).mono ?_; rintro e w1 ⟨rfl, hb⟩; have B1 := Lib.hid ((Bl.refl w).call hb); clear hb)
    | (go_at_call 26; with_reducible refine (HM.out _).mono ?_; rintro e w2 ⟨rfl, hb⟩; have B2 := Lib.hid (B1.out.call hb); clear hb)
    | (go_at_call 26; with_reducible refine (HS.out _).mono ?_; rintro e w3 ⟨rfl, hb⟩; have B3 := Lib.hid (B2.out.call hb); clear hb))
  go_ret2
  exact ⟨rfl, B3.out.below⟩

theorem rprint_posD1T001 (m : Int) (h0 : 0 < m) (h1 : m ≤ 86399913600) (h : ¬ m % 604800 = 0) (c1 : 86400 ≤ m) (c2 : 0 < m % 86400) (c3 : m % 86400 < 3600) (c4 : m % 86400 / 60 % 60 = 0) (c5 : 0 < m % 86400 % 60) (w : World) :
    Calls Tryd.prog 13 #[.int .i64 m] w fun r w' => r = .returned (.tuple #[.string ⟨([80] ++ bdL m).toArray⟩, .int .i64 0]) ∧ Below w.heap.size w w' := by
  have e : ByteArray.mk ([80] ++ bdL m).toArray = (((ByteArray.mk #[80] ++ (ByteArray.mk (dec (m / 86400)).toArray ++ ByteArray.mk #[68])) ++ ByteArray.mk #[84]) ++ (ByteArray.mk (dec (m % 86400 % 60)).toArray ++ ByteArray.mk #[83])) := by
    simp only [mk_app]
    rw [bd_rest h, pt_some (c := 68) (show ¬ m / 86400 = 0 by omega), tm_some (by omega), min_eq (by omega) (by omega), show m % 86400 / 3600 = 0 by omega, pt_zero, c4, pt_zero, pt_some (c := 83) (show ¬ m % 86400 % 60 = 0 by omega)]
    simp
  rw [e]
  clear e
  have r1 : m % 86400 < 86400 := by omega
  generalize hr : m % 86400 = r at *
  have d0 : 0 ≤ m / 86400 := by omega
  have d1 : m / 86400 ≤ 999999 := by omega
  have HD := Lib.hid (fun W => rtext_any (m / 86400) d0 d1 W)
  have zd := dec_size d0 d1
  generalize ByteArray.mk (dec (m / 86400)).toArray = td at *
  have ss0 : 0 ≤ r % 60 := by omega
  have ss1 : r % 60 ≤ 999999 := by omega
  have HS := Lib.hid (fun W => rtext_any (r % 60) ss0 ss1 W)
  have zss := dec_size ss0 ss1
  generalize ByteArray.mk (dec (r % 60)).toArray = ts at *
  generalize hq : m / 86400 = q at *
  have u0 : 0 ≤ r / 60 := by omega
  generalize hu : r / 60 = u at *
  generalize hsv : r % 60 = sv at *
  go_enter Tryd.func13, Tryd.ntmps13
  go_wp2_with (first
    | (go_at_call 26; with_reducible refine (HD.out _).mono ?_; rintro e w1 ⟨rfl, hb⟩; have B1 := Lib.hid ((Bl.refl w).call hb); clear hb)
    | (go_at_call 26; with_reducible refine (HS.out _).mono ?_; rintro e w2 ⟨rfl, hb⟩; have B2 := Lib.hid (B1.out.call hb); clear hb))
  go_ret2
  exact ⟨rfl, B2.out.below⟩

theorem rprint_posD1T010 (m : Int) (h0 : 0 < m) (h1 : m ≤ 86399913600) (h : ¬ m % 604800 = 0) (c1 : 86400 ≤ m) (c2 : 0 < m % 86400) (c3 : m % 86400 < 3600) (c4 : 0 < m % 86400 / 60 % 60) (c5 : m % 86400 % 60 = 0) (w : World) :
    Calls Tryd.prog 13 #[.int .i64 m] w fun r w' => r = .returned (.tuple #[.string ⟨([80] ++ bdL m).toArray⟩, .int .i64 0]) ∧ Below w.heap.size w w' := by
  have e : ByteArray.mk ([80] ++ bdL m).toArray = (((ByteArray.mk #[80] ++ (ByteArray.mk (dec (m / 86400)).toArray ++ ByteArray.mk #[68])) ++ ByteArray.mk #[84]) ++ (ByteArray.mk (dec (m % 86400 / 60 % 60)).toArray ++ ByteArray.mk #[77])) := by
    simp only [mk_app]
    rw [bd_rest h, pt_some (c := 68) (show ¬ m / 86400 = 0 by omega), tm_some (by omega), min_eq (by omega) (by omega), show m % 86400 / 3600 = 0 by omega, pt_zero, pt_some (c := 77) (show ¬ m % 86400 / 60 % 60 = 0 by omega), c5, pt_zero]
    simp
  rw [e]
  clear e
  have r1 : m % 86400 < 86400 := by omega
  generalize hr : m % 86400 = r at *
  have d0 : 0 ≤ m / 86400 := by omega
  have d1 : m / 86400 ≤ 999999 := by omega
  have HD := Lib.hid (fun W => rtext_any (m / 86400) d0 d1 W)
  have zd := dec_size d0 d1
  generalize ByteArray.mk (dec (m / 86400)).toArray = td at *
  have mm0 : 0 ≤ r / 60 % 60 := by omega
  have mm1 : r / 60 % 60 ≤ 999999 := by omega
  have HM := Lib.hid (fun W => rtext_any (r / 60 % 60) mm0 mm1 W)
  have zmm := dec_size mm0 mm1
  generalize ByteArray.mk (dec (r / 60 % 60)).toArray = tm at *
  generalize hq : m / 86400 = q at *
  have u0 : 0 ≤ r / 60 := by omega
  generalize hu : r / 60 = u at *
  generalize hmv : u % 60 = mv at *
  go_enter Tryd.func13, Tryd.ntmps13
  go_wp2_with (first
    | (go_at_call 26; with_reducible refine (HD.out _).mono ?_; rintro e w1 ⟨rfl, hb⟩; have B1 := Lib.hid ((Bl.refl w).call hb); clear hb)
    | (go_at_call 26; with_reducible refine (HM.out _).mono ?_; rintro e w2 ⟨rfl, hb⟩; have B2 := Lib.hid (B1.out.call hb); clear hb))
  go_ret2
  exact ⟨rfl, B2.out.below⟩

theorem rprint_posD1T011 (m : Int) (h0 : 0 < m) (h1 : m ≤ 86399913600) (h : ¬ m % 604800 = 0) (c1 : 86400 ≤ m) (c2 : 0 < m % 86400) (c3 : m % 86400 < 3600) (c4 : 0 < m % 86400 / 60 % 60) (c5 : 0 < m % 86400 % 60) (w : World) :
    Calls Tryd.prog 13 #[.int .i64 m] w fun r w' => r = .returned (.tuple #[.string ⟨([80] ++ bdL m).toArray⟩, .int .i64 0]) ∧ Below w.heap.size w w' := by
  have e : ByteArray.mk ([80] ++ bdL m).toArray = ((((ByteArray.mk #[80] ++ (ByteArray.mk (dec (m / 86400)).toArray ++ ByteArray.mk #[68])) ++ ByteArray.mk #[84]) ++ (ByteArray.mk (dec (m % 86400 / 60 % 60)).toArray ++ ByteArray.mk #[77])) ++ (ByteArray.mk (dec (m % 86400 % 60)).toArray ++ ByteArray.mk #[83])) := by
    simp only [mk_app]
    rw [bd_rest h, pt_some (c := 68) (show ¬ m / 86400 = 0 by omega), tm_some (by omega), min_eq (by omega) (by omega), show m % 86400 / 3600 = 0 by omega, pt_zero, pt_some (c := 77) (show ¬ m % 86400 / 60 % 60 = 0 by omega), pt_some (c := 83) (show ¬ m % 86400 % 60 = 0 by omega)]
    simp
  rw [e]
  clear e
  have r1 : m % 86400 < 86400 := by omega
  generalize hr : m % 86400 = r at *
  have d0 : 0 ≤ m / 86400 := by omega
  have d1 : m / 86400 ≤ 999999 := by omega
  have HD := Lib.hid (fun W => rtext_any (m / 86400) d0 d1 W)
  have zd := dec_size d0 d1
  generalize ByteArray.mk (dec (m / 86400)).toArray = td at *
  have mm0 : 0 ≤ r / 60 % 60 := by omega
  have mm1 : r / 60 % 60 ≤ 999999 := by omega
  have HM := Lib.hid (fun W => rtext_any (r / 60 % 60) mm0 mm1 W)
  have zmm := dec_size mm0 mm1
  generalize ByteArray.mk (dec (r / 60 % 60)).toArray = tm at *
  have ss0 : 0 ≤ r % 60 := by omega
  have ss1 : r % 60 ≤ 999999 := by omega
  have HS := Lib.hid (fun W => rtext_any (r % 60) ss0 ss1 W)
  have zss := dec_size ss0 ss1
  generalize ByteArray.mk (dec (r % 60)).toArray = ts at *
  generalize hq : m / 86400 = q at *
  have u0 : 0 ≤ r / 60 := by omega
  generalize hu : r / 60 = u at *
  generalize hmv : u % 60 = mv at *
  generalize hsv : r % 60 = sv at *
  go_enter Tryd.func13, Tryd.ntmps13
  go_wp2_with (first
    | (go_at_call 26; with_reducible refine (HD.out _).mono ?_; rintro e w1 ⟨rfl, hb⟩; have B1 := Lib.hid ((Bl.refl w).call hb); clear hb)
    | (go_at_call 26; with_reducible refine (HM.out _).mono ?_; rintro e w2 ⟨rfl, hb⟩; have B2 := Lib.hid (B1.out.call hb); clear hb)
    | (go_at_call 26; with_reducible refine (HS.out _).mono ?_; rintro e w3 ⟨rfl, hb⟩; have B3 := Lib.hid (B2.out.call hb); clear hb))
  go_ret2
  exact ⟨rfl, B3.out.below⟩

theorem rprint_posD1T100 (m : Int) (h0 : 0 < m) (h1 : m ≤ 86399913600) (h : ¬ m % 604800 = 0) (c1 : 86400 ≤ m) (c2 : 0 < m % 86400) (c3 : 3600 ≤ m % 86400) (c4 : m % 86400 / 60 % 60 = 0) (c5 : m % 86400 % 60 = 0) (w : World) :
    Calls Tryd.prog 13 #[.int .i64 m] w fun r w' => r = .returned (.tuple #[.string ⟨([80] ++ bdL m).toArray⟩, .int .i64 0]) ∧ Below w.heap.size w w' := by
  have e : ByteArray.mk ([80] ++ bdL m).toArray = (((ByteArray.mk #[80] ++ (ByteArray.mk (dec (m / 86400)).toArray ++ ByteArray.mk #[68])) ++ ByteArray.mk #[84]) ++ (ByteArray.mk (dec (m % 86400 / 3600)).toArray ++ ByteArray.mk #[72])) := by
    simp only [mk_app]
    rw [bd_rest h, pt_some (c := 68) (show ¬ m / 86400 = 0 by omega), tm_some (by omega), min_eq (by omega) (by omega), pt_some (c := 72) (show ¬ m % 86400 / 3600 = 0 by omega), c4, pt_zero, c5, pt_zero]
    simp
  rw [e]
  clear e
  have r1 : m % 86400 < 86400 := by omega
  generalize hr : m % 86400 = r at *
  have d0 : 0 ≤ m / 86400 := by omega
  have d1 : m / 86400 ≤ 999999 := by omega
  have HD := Lib.hid (fun W => rtext_any (m / 86400) d0 d1 W)
  have zd := dec_size d0 d1
  generalize ByteArray.mk (dec (m / 86400)).toArray = td at *
  have hh0 : 0 ≤ r / 3600 := by omega
  have hh1 : r / 3600 ≤ 999999 := by omega
  have HH := Lib.hid (fun W => rtext_any (r / 3600) hh0 hh1 W)
  have zhh := dec_size hh0 hh1
  generalize ByteArray.mk (dec (r / 3600)).toArray = th at *
  generalize hq : m / 86400 = q at *
  generalize hh : r / 3600 = hv at *
  have u0 : 0 ≤ r / 60 := by omega
  generalize hu : r / 60 = u at *
  go_enter Tryd.func13, Tryd.ntmps13
  go_wp2_with (first
    | (go_at_call 26; with_reducible refine (HD.out _).mono ?_; rintro e w1 ⟨rfl, hb⟩; have B1 := Lib.hid ((Bl.refl w).call hb); clear hb)
    | (go_at_call 26; with_reducible refine (HH.out _).mono ?_; rintro e w2 ⟨rfl, hb⟩; have B2 := Lib.hid (B1.out.call hb); clear hb))
  go_ret2
  exact ⟨rfl, B2.out.below⟩

theorem rprint_posD1T101 (m : Int) (h0 : 0 < m) (h1 : m ≤ 86399913600) (h : ¬ m % 604800 = 0) (c1 : 86400 ≤ m) (c2 : 0 < m % 86400) (c3 : 3600 ≤ m % 86400) (c4 : m % 86400 / 60 % 60 = 0) (c5 : 0 < m % 86400 % 60) (w : World) :
    Calls Tryd.prog 13 #[.int .i64 m] w fun r w' => r = .returned (.tuple #[.string ⟨([80] ++ bdL m).toArray⟩, .int .i64 0]) ∧ Below w.heap.size w w' := by
  have e : ByteArray.mk ([80] ++ bdL m).toArray = ((((ByteArray.mk #[80] ++ (ByteArray.mk (dec (m / 86400)).toArray ++ ByteArray.mk #[68])) ++ ByteArray.mk #[84]) ++ (ByteArray.mk (dec (m % 86400 / 3600)).toArray ++ ByteArray.mk #[72])) ++ (ByteArray.mk (dec (m % 86400 % 60)).toArray ++ ByteArray.mk #[83])) := by
    simp only [mk_app]
    rw [bd_rest h, pt_some (c := 68) (show ¬ m / 86400 = 0 by omega), tm_some (by omega), min_eq (by omega) (by omega), pt_some (c := 72) (show ¬ m % 86400 / 3600 = 0 by omega), c4, pt_zero, pt_some (c := 83) (show ¬ m % 86400 % 60 = 0 by omega)]
    simp
  rw [e]
  clear e
  have r1 : m % 86400 < 86400 := by omega
  generalize hr : m % 86400 = r at *
  have d0 : 0 ≤ m / 86400 := by omega
  have d1 : m / 86400 ≤ 999999 := by omega
  have HD := Lib.hid (fun W => rtext_any (m / 86400) d0 d1 W)
  have zd := dec_size d0 d1
  generalize ByteArray.mk (dec (m / 86400)).toArray = td at *
  have hh0 : 0 ≤ r / 3600 := by omega
  have hh1 : r / 3600 ≤ 999999 := by omega
  have HH := Lib.hid (fun W => rtext_any (r / 3600) hh0 hh1 W)
  have zhh := dec_size hh0 hh1
  generalize ByteArray.mk (dec (r / 3600)).toArray = th at *
  have ss0 : 0 ≤ r % 60 := by omega
  have ss1 : r % 60 ≤ 999999 := by omega
  have HS := Lib.hid (fun W => rtext_any (r % 60) ss0 ss1 W)
  have zss := dec_size ss0 ss1
  generalize ByteArray.mk (dec (r % 60)).toArray = ts at *
  generalize hq : m / 86400 = q at *
  generalize hh : r / 3600 = hv at *
  have u0 : 0 ≤ r / 60 := by omega
  generalize hu : r / 60 = u at *
  generalize hsv : r % 60 = sv at *
  go_enter Tryd.func13, Tryd.ntmps13
  go_wp2_with (first
    | (go_at_call 26; with_reducible refine (HD.out _).mono ?_; rintro e w1 ⟨rfl, hb⟩; have B1 := Lib.hid ((Bl.refl w).call hb); clear hb)
    | (go_at_call 26; with_reducible refine (HH.out _).mono ?_; rintro e w2 ⟨rfl, hb⟩; have B2 := Lib.hid (B1.out.call hb); clear hb)
    | (go_at_call 26; with_reducible refine (HS.out _).mono ?_; rintro e w3 ⟨rfl, hb⟩; have B3 := Lib.hid (B2.out.call hb); clear hb))
  go_ret2
  exact ⟨rfl, B3.out.below⟩

theorem rprint_posD1T110 (m : Int) (h0 : 0 < m) (h1 : m ≤ 86399913600) (h : ¬ m % 604800 = 0) (c1 : 86400 ≤ m) (c2 : 0 < m % 86400) (c3 : 3600 ≤ m % 86400) (c4 : 0 < m % 86400 / 60 % 60) (c5 : m % 86400 % 60 = 0) (w : World) :
    Calls Tryd.prog 13 #[.int .i64 m] w fun r w' => r = .returned (.tuple #[.string ⟨([80] ++ bdL m).toArray⟩, .int .i64 0]) ∧ Below w.heap.size w w' := by
  have e : ByteArray.mk ([80] ++ bdL m).toArray = ((((ByteArray.mk #[80] ++ (ByteArray.mk (dec (m / 86400)).toArray ++ ByteArray.mk #[68])) ++ ByteArray.mk #[84]) ++ (ByteArray.mk (dec (m % 86400 / 3600)).toArray ++ ByteArray.mk #[72])) ++ (ByteArray.mk (dec (m % 86400 / 60 % 60)).toArray ++ ByteArray.mk #[77])) := by
    simp only [mk_app]
    rw [bd_rest h, pt_some (c := 68) (show ¬ m / 86400 = 0 by omega), tm_some (by omega), min_eq (by omega) (by omega), pt_some (c := 72) (show ¬ m % 86400 / 3600 = 0 by omega), pt_some (c := 77) (show ¬ m % 86400 / 60 % 60 = 0 by omega), c5, pt_zero]
    simp
  rw [e]
  clear e
  have r1 : m % 86400 < 86400 := by omega
  generalize hr : m % 86400 = r at *
  have d0 : 0 ≤ m / 86400 := by omega
  have d1 : m / 86400 ≤ 999999 := by omega
  have HD := Lib.hid (fun W => rtext_any (m / 86400) d0 d1 W)
  have zd := dec_size d0 d1
  generalize ByteArray.mk (dec (m / 86400)).toArray = td at *
  have hh0 : 0 ≤ r / 3600 := by omega
  have hh1 : r / 3600 ≤ 999999 := by omega
  have HH := Lib.hid (fun W => rtext_any (r / 3600) hh0 hh1 W)
  have zhh := dec_size hh0 hh1
  generalize ByteArray.mk (dec (r / 3600)).toArray = th at *
  have mm0 : 0 ≤ r / 60 % 60 := by omega
  have mm1 : r / 60 % 60 ≤ 999999 := by omega
  have HM := Lib.hid (fun W => rtext_any (r / 60 % 60) mm0 mm1 W)
  have zmm := dec_size mm0 mm1
  generalize ByteArray.mk (dec (r / 60 % 60)).toArray = tm at *
  generalize hq : m / 86400 = q at *
  generalize hh : r / 3600 = hv at *
  have u0 : 0 ≤ r / 60 := by omega
  generalize hu : r / 60 = u at *
  generalize hmv : u % 60 = mv at *
  go_enter Tryd.func13, Tryd.ntmps13
  go_wp2_with (first
    | (go_at_call 26; with_reducible refine (HD.out _).mono ?_; rintro e w1 ⟨rfl, hb⟩; have B1 := Lib.hid ((Bl.refl w).call hb); clear hb)
    | (go_at_call 26; with_reducible refine (HH.out _).mono ?_; rintro e w2 ⟨rfl, hb⟩; have B2 := Lib.hid (B1.out.call hb); clear hb)
    | (go_at_call 26; with_reducible refine (HM.out _).mono ?_; rintro e w3 ⟨rfl, hb⟩; have B3 := Lib.hid (B2.out.call hb); clear hb))
  go_ret2
  exact ⟨rfl, B3.out.below⟩

theorem rprint_posD1T111 (m : Int) (h0 : 0 < m) (h1 : m ≤ 86399913600) (h : ¬ m % 604800 = 0) (c1 : 86400 ≤ m) (c2 : 0 < m % 86400) (c3 : 3600 ≤ m % 86400) (c4 : 0 < m % 86400 / 60 % 60) (c5 : 0 < m % 86400 % 60) (w : World) :
    Calls Tryd.prog 13 #[.int .i64 m] w fun r w' => r = .returned (.tuple #[.string ⟨([80] ++ bdL m).toArray⟩, .int .i64 0]) ∧ Below w.heap.size w w' := by
  have e : ByteArray.mk ([80] ++ bdL m).toArray = (((((ByteArray.mk #[80] ++ (ByteArray.mk (dec (m / 86400)).toArray ++ ByteArray.mk #[68])) ++ ByteArray.mk #[84]) ++ (ByteArray.mk (dec (m % 86400 / 3600)).toArray ++ ByteArray.mk #[72])) ++ (ByteArray.mk (dec (m % 86400 / 60 % 60)).toArray ++ ByteArray.mk #[77])) ++ (ByteArray.mk (dec (m % 86400 % 60)).toArray ++ ByteArray.mk #[83])) := by
    simp only [mk_app]
    rw [bd_rest h, pt_some (c := 68) (show ¬ m / 86400 = 0 by omega), tm_some (by omega), min_eq (by omega) (by omega), pt_some (c := 72) (show ¬ m % 86400 / 3600 = 0 by omega), pt_some (c := 77) (show ¬ m % 86400 / 60 % 60 = 0 by omega), pt_some (c := 83) (show ¬ m % 86400 % 60 = 0 by omega)]
    simp
  rw [e]
  clear e
  have r1 : m % 86400 < 86400 := by omega
  generalize hr : m % 86400 = r at *
  have d0 : 0 ≤ m / 86400 := by omega
  have d1 : m / 86400 ≤ 999999 := by omega
  have HD := Lib.hid (fun W => rtext_any (m / 86400) d0 d1 W)
  have zd := dec_size d0 d1
  generalize ByteArray.mk (dec (m / 86400)).toArray = td at *
  have hh0 : 0 ≤ r / 3600 := by omega
  have hh1 : r / 3600 ≤ 999999 := by omega
  have HH := Lib.hid (fun W => rtext_any (r / 3600) hh0 hh1 W)
  have zhh := dec_size hh0 hh1
  generalize ByteArray.mk (dec (r / 3600)).toArray = th at *
  have mm0 : 0 ≤ r / 60 % 60 := by omega
  have mm1 : r / 60 % 60 ≤ 999999 := by omega
  have HM := Lib.hid (fun W => rtext_any (r / 60 % 60) mm0 mm1 W)
  have zmm := dec_size mm0 mm1
  generalize ByteArray.mk (dec (r / 60 % 60)).toArray = tm at *
  have ss0 : 0 ≤ r % 60 := by omega
  have ss1 : r % 60 ≤ 999999 := by omega
  have HS := Lib.hid (fun W => rtext_any (r % 60) ss0 ss1 W)
  have zss := dec_size ss0 ss1
  generalize ByteArray.mk (dec (r % 60)).toArray = ts at *
  generalize hq : m / 86400 = q at *
  generalize hh : r / 3600 = hv at *
  have u0 : 0 ≤ r / 60 := by omega
  generalize hu : r / 60 = u at *
  generalize hmv : u % 60 = mv at *
  generalize hsv : r % 60 = sv at *
  go_enter Tryd.func13, Tryd.ntmps13
  go_wp2_with (first
    | (go_at_call 26; with_reducible refine (HD.out _).mono ?_; rintro e w1 ⟨rfl, hb⟩; have B1 := Lib.hid ((Bl.refl w).call hb); clear hb)
    | (go_at_call 26; with_reducible refine (HH.out _).mono ?_; rintro e w2 ⟨rfl, hb⟩; have B2 := Lib.hid (B1.out.call hb); clear hb)
    | (go_at_call 26; with_reducible refine (HM.out _).mono ?_; rintro e w3 ⟨rfl, hb⟩; have B3 := Lib.hid (B2.out.call hb); clear hb)
    | (go_at_call 26; with_reducible refine (HS.out _).mono ?_; rintro e w4 ⟨rfl, hb⟩; have B4 := Lib.hid (B3.out.call hb); clear hb))
  go_ret2
  exact ⟨rfl, B4.out.below⟩
end Go.Proofs.YtmbbjpfhdijmbaaDoor.Spn
