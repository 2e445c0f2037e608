/- bits.Len64 (mk_ieeep.py) -/
import Derived.Test.YtfnfnkakaggmbabGreatDoorLen
namespace Go.Proofs.YtfnfnkakaggmbabGreatDoor
open Go.RowKit

set_option maxRecDepth 100000 in
set_option maxHeartbeats 4000000 in
theorem len64_any (x : Int) (w : World) (hx0 : 0 ≤ x) (hx1 : x < 18446744073709551616) :
    Calls Tryz.prog 144 #[.int .u64 x] w fun e w' => ∃ k : Nat, e = .returned (.int .i64 k) ∧ IsLen x k ∧ k ≤ 64 ∧ w' = w := by
  have hsz := lenTab_size
  by_cases h1 : x < 4294967296
  · by_cases h2 : x < 65536
    · by_cases h3 : x < 256
      · skip
        have a1 : ¬ 4294967296 ≤ x := by omega
        have a2 : ¬ 65536 ≤ x := by omega
        have a3 : ¬ 256 ≤ x := by omega
        go_enter Tryz.func144, Tryz.ntmps144
        go_wp2
        go_ret
        have hs' : (x).toNat < lenTab.size := by omega
        obtain ⟨t1, t2⟩ := tab_at (x) (by omega) (by omega) hs'
        refine ⟨(lenTab[(x).toNat]'hs').toNat, ?_, t1, by omega, rfl⟩
        refine ret_int ?_
        generalize hN : (lenTab[(x).toNat]'hs').toNat = N at t2 ⊢
        show wrap64 (wrap64 (((lenTab[(x).toNat]'hs').toNat : Nat) : Int)) = _
        rw [hN]
        unfold wrap64; omega
      · skip
        have a1 : ¬ 4294967296 ≤ x := by omega
        have a2 : ¬ 65536 ≤ x := by omega
        have a3 : 256 ≤ x := by omega
        go_enter Tryz.func144, Tryz.ntmps144
        go_wp2
        go_ret
        have hs' : ((x / 256)).toNat < lenTab.size := by omega
        obtain ⟨t1, t2⟩ := tab_at ((x / 256)) (by omega) (by omega) hs'
        have t3 := isLen_shift (P := 256) (m := 8) (by decide) t1 (len_pos t1 (by omega))
        refine ⟨(lenTab[((x / 256)).toNat]'hs').toNat + 8, ?_, t3, by omega, rfl⟩
        refine ret_int ?_
        generalize hN : (lenTab[((x / 256)).toNat]'hs').toNat = N at t2 ⊢
        show wrap64 (8 + wrap64 (((lenTab[((x / 256)).toNat]'hs').toNat : Nat) : Int)) = _
        rw [hN]
        unfold wrap64; omega
    · by_cases h3 : x / 65536 < 256
      · skip
        have a1 : ¬ 4294967296 ≤ x := by omega
        have a2 : 65536 ≤ x := by omega
        have a3 : ¬ 256 ≤ (x / 65536) := by omega
        go_enter Tryz.func144, Tryz.ntmps144
        go_wp2
        go_ret
        have hs' : ((x / 65536)).toNat < lenTab.size := by omega
        obtain ⟨t1, t2⟩ := tab_at ((x / 65536)) (by omega) (by omega) hs'
        have t3 := isLen_shift (P := 65536) (m := 16) (by decide) t1 (len_pos t1 (by omega))
        refine ⟨(lenTab[((x / 65536)).toNat]'hs').toNat + 16, ?_, t3, by omega, rfl⟩
        refine ret_int ?_
        generalize hN : (lenTab[((x / 65536)).toNat]'hs').toNat = N at t2 ⊢
        show wrap64 (16 + wrap64 (((lenTab[((x / 65536)).toNat]'hs').toNat : Nat) : Int)) = _
        rw [hN]
        unfold wrap64; omega
      · skip
        have a1 : ¬ 4294967296 ≤ x := by omega
        have a2 : 65536 ≤ x := by omega
        have a3 : 256 ≤ (x / 65536) := by omega
        go_enter Tryz.func144, Tryz.ntmps144
        go_wp2
        go_ret
        have hs' : (((x / 65536) / 256)).toNat < lenTab.size := by omega
        obtain ⟨t1, t2⟩ := tab_at (((x / 65536) / 256)) (by omega) (by omega) hs'
        have t3 := isLen_shift (P := 256) (m := 8) (by decide) t1 (len_pos t1 (by omega))
        have t4 := isLen_shift (P := 65536) (m := 16) (by decide) t3 (by omega)
        refine ⟨(lenTab[(((x / 65536) / 256)).toNat]'hs').toNat + 8 + 16, ?_, t4, by omega, rfl⟩
        refine ret_int ?_
        generalize hN : (lenTab[(((x / 65536) / 256)).toNat]'hs').toNat = N at t2 ⊢
        show wrap64 (24 + wrap64 (((lenTab[(((x / 65536) / 256)).toNat]'hs').toNat : Nat) : Int)) = _
        rw [hN]
        unfold wrap64; omega
  · by_cases h2 : x / 4294967296 < 65536
    · by_cases h3 : x / 4294967296 < 256
      · skip
        have a1 : 4294967296 ≤ x := by omega
        have a2 : ¬ 65536 ≤ (x / 4294967296) := by omega
        have a3 : ¬ 256 ≤ (x / 4294967296) := by omega
        go_enter Tryz.func144, Tryz.ntmps144
        go_wp2
        go_ret
        have hs' : ((x / 4294967296)).toNat < lenTab.size := by omega
        obtain ⟨t1, t2⟩ := tab_at ((x / 4294967296)) (by omega) (by omega) hs'
        have t3 := isLen_shift (P := 4294967296) (m := 32) (by decide) t1 (len_pos t1 (by omega))
        refine ⟨(lenTab[((x / 4294967296)).toNat]'hs').toNat + 32, ?_, t3, by omega, rfl⟩
        refine ret_int ?_
        generalize hN : (lenTab[((x / 4294967296)).toNat]'hs').toNat = N at t2 ⊢
        show wrap64 (32 + wrap64 (((lenTab[((x / 4294967296)).toNat]'hs').toNat : Nat) : Int)) = _
        rw [hN]
        unfold wrap64; omega
      · skip
        have a1 : 4294967296 ≤ x := by omega
        have a2 : ¬ 65536 ≤ (x / 4294967296) := by omega
        have a3 : 256 ≤ (x / 4294967296) := by omega
        go_enter Tryz.func144, Tryz.ntmps144
        go_wp2
        go_ret
        have hs' : (((x / 4294967296) / 256)).toNat < lenTab.size := by omega
        obtain ⟨t1, t2⟩ := tab_at (((x / 4294967296) / 256)) (by omega) (by omega) hs'
        have t3 := isLen_shift (P := 256) (m := 8) (by decide) t1 (len_pos t1 (by omega))
        have t4 := isLen_shift (P := 4294967296) (m := 32) (by decide) t3 (by omega)
        refine ⟨(lenTab[(((x / 4294967296) / 256)).toNat]'hs').toNat + 8 + 32, ?_, t4, by omega, rfl⟩
        refine ret_int ?_
        generalize hN : (lenTab[(((x / 4294967296) / 256)).toNat]'hs').toNat = N at t2 ⊢
        show wrap64 (40 + wrap64 (((lenTab[(((x / 4294967296) / 256)).toNat]'hs').toNat : Nat) : Int)) = _
        rw [hN]
        unfold wrap64; omega
    · by_cases h3 : x / 4294967296 / 65536 < 256
      · skip
        have a1 : 4294967296 ≤ x := by omega
        have a2 : 65536 ≤ (x / 4294967296) := by omega
        have a3 : ¬ 256 ≤ ((x / 4294967296) / 65536) := by omega
        go_enter Tryz.func144, Tryz.ntmps144
        go_wp2
        go_ret
        have hs' : (((x / 4294967296) / 65536)).toNat < lenTab.size := by omega
        obtain ⟨t1, t2⟩ := tab_at (((x / 4294967296) / 65536)) (by omega) (by omega) hs'
        have t3 := isLen_shift (P := 65536) (m := 16) (by decide) t1 (len_pos t1 (by omega))
        have t4 := isLen_shift (P := 4294967296) (m := 32) (by decide) t3 (by omega)
        refine ⟨(lenTab[(((x / 4294967296) / 65536)).toNat]'hs').toNat + 16 + 32, ?_, t4, by omega, rfl⟩
        refine ret_int ?_
        generalize hN : (lenTab[(((x / 4294967296) / 65536)).toNat]'hs').toNat = N at t2 ⊢
        show wrap64 (48 + wrap64 (((lenTab[(((x / 4294967296) / 65536)).toNat]'hs').toNat : Nat) : Int)) = _
        rw [hN]
        unfold wrap64; omega
      · skip
        have a1 : 4294967296 ≤ x := by omega
        have a2 : 65536 ≤ (x / 4294967296) := by omega
        have a3 : 256 ≤ ((x / 4294967296) / 65536) := by omega
        go_enter Tryz.func144, Tryz.ntmps144
        go_wp2
        go_ret
        have hs' : ((((x / 4294967296) / 65536) / 256)).toNat < lenTab.size := by omega
        obtain ⟨t1, t2⟩ := tab_at ((((x / 4294967296) / 65536) / 256)) (by omega) (by omega) hs'
        have t3 := isLen_shift (P := 256) (m := 8) (by decide) t1 (len_pos t1 (by omega))
        have t4 := isLen_shift (P := 65536) (m := 16) (by decide) t3 (by omega)
        have t5 := isLen_shift (P := 4294967296) (m := 32) (by decide) t4 (by omega)
        refine ⟨(lenTab[((((x / 4294967296) / 65536) / 256)).toNat]'hs').toNat + 8 + 16 + 32, ?_, t5, by omega, rfl⟩
        refine ret_int ?_
        generalize hN : (lenTab[((((x / 4294967296) / 65536) / 256)).toNat]'hs').toNat = N at t2 ⊢
        show wrap64 (56 + wrap64 (((lenTab[((((x / 4294967296) / 65536) / 256)).toNat]'hs').toNat : Nat) : Int)) = _
        rw [hN]
        unfold wrap64; omega

end Go.Proofs.YtfnfnkakaggmbabGreatDoor
