/- Contract of load of the document's answer (errandref05). -/
import Derived.Test.YtkglolnghihegaaGreatDoorSheafLoad
namespace Go.Proofs.YtkglolnghihegaaGreatDoor.Shf
open Go.RowKit Go.Proofs.YtkglolnghihegaaGreatDoor.Oct Go.Proofs.YtkglolnghihegaaGreatDoor.Crc

theorem rput_own {w : World} {B : Nat} {v : Value} {l : List UInt8} (h : OwnB w B v l) (hm : l.length ≤ 100) (k n : Nat) (h1 : 1 ≤ k) (h2 : k ≤ 7) (hn : n < 256 ^ k) (hn2 : n < 9223372036854775808) :
    Calls Tryz.prog 140 #[v, .int .i64 k, .int .i64 n] w (RetL w (l ++ beB k n)) := by
  obtain ⟨a, cap, rfl, hr⟩ := h.reads
  exact rput_l a l.length cap l k n w hr hm h1 h2 hn hn2
theorem rput_nil (w : World) (k n : Nat) (h1 : 1 ≤ k) (h2 : k ≤ 7) (hn : n < 256 ^ k) (hn2 : n < 9223372036854775808) :
    Calls Tryz.prog 140 #[.slice none 0 0, .int .i64 k, .int .i64 n] w (RetL w (beB k n)) :=
  rput_own (OwnB.nil w w.heap.size) (by simp) k n h1 h2 hn hn2

theorem conv_made (w : World) (n : Nat) : (convert 59 9 (.slice (some ⟨w.heap.size, 0, none⟩) n n)).run Tryz.prog (w.alloc (.cells (madeCells #[.int .u8 0] n) 5)) = .ok (.string ⟨(List.replicate n 0).toArray⟩) (w.alloc (.cells (madeCells #[.int .u8 0] n) 5)) := by
  have h := (made_row w n).reads
  rw [List.length_replicate] at h
  exact Sht.conv_reads h

/-- How many parts a text takes. -/
def cntN (n : Nat) : Nat := (n + 44) / 37
theorem cnt_eq (n : Nat) (h : (n : Int) ≤ 16000) : cntR n = cntN n := by unfold cntR cntN; rw [if_pos (by omega)]; omega

set_option maxRecDepth 20000 in
theorem rload_any (t : ByteArray) (w : World) (ht : (t.size : Int) ≤ 16000) :
    Calls Tryz.prog 139 #[.string t] w fun r w' => r = .returned (.string ⟨(loadB t.data.toList (cntN t.size)).toArray⟩) ∧ Below w.heap.size w w' := by
  have hlt : t.data.toList.length = t.size := by simp
  have HN := Lib.hid (fun W => rcount_any t.size W)
  rw [cnt_eq _ ht] at HN
  have hn : (t.size : Int) + 8 ≤ cntN t.size * 37 := by unfold cntN; omega
  have hn2 : (cntN t.size : Int) ≤ 500 := by unfold cntN; omega
  generalize cntN t.size = n at *
  have HL : Hid (∀ W, Calls Tryz.prog 140 #[.slice none 0 0, .int .i64 4, .int .i64 t.size] W (RetL W (beB 4 t.size))) := Lib.hid (fun W => rput_nil W 4 t.size (by omega) (by omega) (by omega) (by omega))
  have HS := Lib.hid (fun W => ref_sum ⟨(restB t.data.toList n).toArray⟩ W (by rw [size_mk]; unfold restB maxLen; simp only [List.length_append, beB_length, List.length_replicate]; omega))
  rw [list_mk] at HS
  unfold loadB
  have hrl : (restB t.data.toList n).length = n * 37 - 4 := by unfold restB; simp only [List.length_append, beB_length, List.length_replicate]; omega
  have hre : restB t.data.toList n = beB 4 t.size ++ t.data.toList ++ List.replicate (n * 37 - 8 - t.size) 0 := by unfold restB; rw [hlt, List.append_assoc]
  generalize hrest : restB t.data.toList n = rest at *
  clear hrest
  have HK : Hid (∀ W, Calls Tryz.prog 140 #[.slice none 0 0, .int .i64 4, .int .i64 (uv (goL 0#32 rest))] W (RetL W (beB 4 (goL 0#32 rest).toNat))) := Lib.hid (fun W => rput_nil W 4 _ (by omega) (by omega) (uv_pow _) (by have := uv_pow (goL 0#32 rest); omega))
  have hc0 := uv_nonneg (goL 0#32 rest)
  have hc1 := uv_lt (goL 0#32 rest)
  generalize goL 0#32 rest = c at *
  have HE : Hid ((⟨(beB 4 t.size).toArray⟩ : ByteArray) ++ t ++ ⟨(List.replicate (n * 37 - 8 - t.size) 0).toArray⟩ = ⟨rest.toArray⟩) := Lib.hid (by rw [app_str, app_two, hre])
  have s2 : (⟨(List.replicate (n * 37 - 8 - t.size) (0 : UInt8)).toArray⟩ : ByteArray).size = n * 37 - 8 - t.size := by rw [size_mk, List.length_replicate]
  have HG : Hid ((⟨(beB 4 c.toNat).toArray⟩ : ByteArray) ++ ⟨rest.toArray⟩ = ⟨(beB 4 c.toNat ++ rest).toArray⟩) := Lib.hid (app_two _ _)
  have s4 : (⟨rest.toArray⟩ : ByteArray).size = n * 37 - 4 := by rw [size_mk, hrl]
  have HV := Lib.hid (conv_made · (n * 37 - 8 - t.size))
  have HM : Hid (∀ W, (Instr.makeSlice 59 (.int .i64 ((n : Int) * 37 - 4 - (4 + t.size))) (.int .i64 ((n : Int) * 37 - 4 - (4 + t.size)))).run Tryz.prog W = .ok (.slice (some ⟨W.heap.size, 0, none⟩) (n * 37 - 8 - t.size) (n * 37 - 8 - t.size)) (W.alloc (.cells (madeCells #[.int .u8 0] (n * 37 - 8 - t.size)) 5))) := Lib.hid (fun W => by
    rw [show (n : Int) * 37 - 4 - (4 + t.size) = ((n * 37 - 8 - t.size : Nat) : Int) from by omega]
    exact run_make_row' (P := Tryz.prog) 59 5 (.int .u8 0) 1 Tryz.underlying59 Tryz.info5 rfl .i64 .i64 (n * 37 - 8 - t.size) (by omega) (by omega) W)
  generalize (⟨(List.replicate (n * 37 - 8 - t.size) (0 : UInt8)).toArray⟩ : ByteArray) = X2 at *
  generalize (⟨rest.toArray⟩ : ByteArray) = X4 at *
  clear hre hrl hlt
  go_enter Tryz.func139, Tryz.ntmps139
  go_wp2_with fail
  with_reducible refine (HL.out _).mono ?_
  rintro r w2 ⟨v2, rfl, h2, b2⟩
  have HB2 := Lib.hid b2
  have HC := conv_own h2
  clear h2 b2 HL
  have s1 : (⟨(beB 4 t.size).toArray⟩ : ByteArray).size = 4 := by rw [size_mk, beB_length]
  generalize (⟨(beB 4 t.size).toArray⟩ : ByteArray) = X1 at *
  have s12 : (X1 ++ t).size = 4 + t.size := by rw [ByteArray.size_append, s1]
  go_wp2_with fail
  with_reducible refine (HN.out _).mono ?_
  rintro r w3 ⟨rfl, rfl⟩
  have hmk := HM.out w2
  have hcv := HV.out w2
  have HB3 := Lib.hid (HB2.out.push (.cells (madeCells #[.int .u8 0] (n * 37 - 8 - t.size)) 5))
  clear HM HV HN HB2
  go_wp2_with fail
  with_reducible (rw [HE.out])
  with_reducible refine (HS.out _).mono ?_
  rintro r w3 ⟨rfl, rfl⟩
  clear HS HC s1 s12 s2 hmk hcv
  generalize w2.alloc (.cells (madeCells #[.int .u8 0] (n * 37 - 8 - t.size)) 5) = w3 at *
  go_wp2_with fail
  with_reducible refine (HK.out _).mono ?_
  rintro r w4 ⟨v4, rfl, h4, b4⟩
  have HB4 := Lib.hid (HB3.out.call b4)
  have HC := conv_own h4
  clear h4 b4 HB3 HK
  have s5 : (⟨(beB 4 c.toNat).toArray⟩ : ByteArray).size = 4 := by rw [size_mk, beB_length]
  generalize (⟨(beB 4 c.toNat).toArray⟩ : ByteArray) = X5 at *
  go_wp2_with fail
  rw [HG.out]
  go_ret
  exact ⟨rfl, HB4.out⟩

end Go.Proofs.YtkglolnghihegaaGreatDoor.Shf
