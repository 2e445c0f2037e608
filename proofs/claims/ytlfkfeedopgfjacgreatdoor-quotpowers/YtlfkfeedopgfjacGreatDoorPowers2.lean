/- RefPow, RefPow2, QMem, Powers -/
import Derived.Test.YtlfkfeedopgfjacGreatDoorQKit2
import Derived.Test.YtlfkfeedopgfjacGreatDoorRefB
import Derived.Test.YtlfkfeedopgfjacGreatDoorRefD
import Derived.Test.YtlfkfeedopgfjacGreatDoorBookAp
import Derived.Deep.LoopGhost
namespace Go.Proofs.YtlfkfeedopgfjacGreatDoor
open Go.RowKit

/-- is a power in reach? -/
def InR (b : Int) (k : Nat) (n : Int) : Prop := 0 ≤ n ∧ (b < 2 ∨ n ≤ 65536 / (k : Int))
instance (b : Int) (k : Nat) (n : Int) : Decidable (InR b k n) := by unfold InR; exact inferInstance
/-- the number that is answered -/
def PV (b : Int) (k : Nat) (n : Int) : Int := if InR b k n then b ^ n.toNat else 0

theorem num_nil (B : Nat) (w : World) (k : Nat) : Num B w (.slice none 0 0) 0 k := ⟨[], ⟨none, rfl, by unfold maxLen; simp, fun h => absurd h (by simp)⟩, Nt.canon_nil, rfl, by simp⟩
theorem isLen_is {b : Int} {k : Nat} (h : IsLen b k) (hb : 2 ≤ b) : 0 < k := isLen_pos h (by omega)

theorem pow_pv {w : World} {b n : Int} {k : Nat} (hb0 : 0 ≤ b) (hb1 : b < 4294967296) (hk : IsLen b k) (hN : n ≤ 9223372036854775807) :
    Calls Tryz.prog 7 #[.int .u32 b, .int .i64 n] w fun e w' => ∃ v, e = .returned (.tuple #[v, .bool (decide (InR b k n))]) ∧ Num w.heap.size w' v (PV b k n) 2048 ∧ Below w.heap.size w w' := by
  unfold PV
  by_cases h : InR b k n
  · rw [decide_eq_true h, if_pos h]
    obtain ⟨N, rfl⟩ := Int.eq_ofNat_of_zero_le h.1
    rw [Int.toNat_natCast]
    refine (pow_ok (N := N) hb0 hb1 hk hN h.2).mono ?_
    rintro e w' ⟨v, rfl, hn, hb⟩
    exact ⟨v, rfl, hn, hb⟩
  · rw [decide_eq_false h, if_neg h]
    rcases Int.lt_or_le n 0 with hn | hn
    · refine (pow_neg hn).mono ?_
      rintro e w' ⟨rfl, rfl⟩
      exact ⟨_, rfl, num_nil _ _ _, Below.refl _ _⟩
    · have h2 : 2 ≤ b := by
        rcases Int.lt_or_le b 2 with h2 | h2
        · exact absurd ⟨hn, Or.inl h2⟩ h
        · exact h2
      have h3 : 65536 / (k : Int) < n := by
        rcases Int.lt_or_le (65536 / (k : Int)) n with h3 | h3
        · exact h3
        · exact absurd ⟨hn, Or.inr h3⟩ h
      refine (pow_big hn h2 hb1 hk (isLen_is hk h2) h3).mono ?_
      rintro e w' ⟨rfl, rfl⟩
      exact ⟨_, rfl, num_nil _ _ _, Below.refl _ _⟩

set_option maxRecDepth 20000 in
set_option maxHeartbeats 1000000 in
theorem rpower_zero {w : World} {b : Int} :
    Calls Tryz.prog 24 #[.int .u32 b, .int .i64 0] w fun e w' => ∃ v, e = .returned v ∧ Num w.heap.size w' v 1 2048 ∧ Below w.heap.size w w' := by
  have hnum := num_row1 (B := w.heap.size) (x := 1) (row_one w 1) (Nat.le_refl _) (by omega)
  have HN := hide hnum
  clear hnum
  go_enter Tryz.func24, Tryz.ntmps24
  go_wp2
  go_ret
  exact ⟨_, rfl, HN.out.mono (by omega), below_alloc _ _⟩

theorem pow_mono_le {b : Int} (hb : 1 ≤ b) {m n : Nat} (h : m ≤ n) : b ^ m ≤ b ^ n := by
  obtain ⟨d, rfl⟩ : ∃ d, n = m + d := ⟨n - m, by omega⟩
  rw [Int.pow_add]
  have h1 := pow_ge_one hb d
  have h2 : b ^ m * 1 ≤ b ^ m * b ^ d := Int.mul_le_mul_of_nonneg_left h1 (by have := pow_ge_one hb m; omega)
  omega

set_option maxRecDepth 20000 in
set_option maxHeartbeats 4000000 in
theorem rpower_any (N : Nat) : ∀ {w : World} {b : Int}, 1 ≤ b → b < 4294967296 → (N : Int) ≤ 9223372036854775807 → b ^ N < Nt.pw 2048 →
    Calls Tryz.prog 24 #[.int .u32 b, .int .i64 N] w fun e w' => ∃ v, e = .returned v ∧ Num w.heap.size w' v (b ^ N) 2048 ∧ Below w.heap.size w w' := by
  induction N using Nat.strongRecOn with
  | _ N ih =>
    intro w b hb1 hb2 hN hlt
    by_cases h0 : N = 0
    · subst h0
      refine (rpower_zero (w := w) (b := b)).mono ?_
      rintro e w' ⟨v, rfl, hn, hb⟩
      exact ⟨v, rfl, by rw [Int.pow_zero]; exact hn, hb⟩
    · obtain ⟨q, hq⟩ : ∃ q, q = N / 2 := ⟨_, rfl⟩
      have j1 : (N : Int) / 2 = (q : Int) := by omega
      have hqlt : b ^ q < Nt.pw 2048 := Int.lt_of_le_of_lt (pow_mono_le hb1 (by omega)) hlt
      have hc := ih q (by omega) (w := w) (b := b) hb1 hb2 (by omega) hqlt
      have n0 : ((N : Int) == 0) = false := by simp; omega
      have hh := pow_half (s := b) N
      have e2 : (b * b) ^ q = b ^ q * b ^ q := by rw [Int.mul_pow]
      rw [← hq, e2] at hh
      have hsq : b ^ q * b ^ q < Nt.pw 2048 := by
        have h1 : b ^ q * b ^ q = b ^ (q + q) := by rw [Int.pow_add]
        rw [h1]
        exact Int.lt_of_le_of_lt (pow_mono_le hb1 (by omega)) hlt
      have HH := hide hh
      have HL := hide hlt
      have HS := hide hsq
      clear ih hh hlt hsq hqlt hq
      go_enter Tryz.func24, Tryz.ntmps24
      go_wp2_with fail
      with_reducible refine hc.mono ?_
      clear hc
      rintro e w1 ⟨v1, rfl, h1, hb⟩
      go_wp2_with fail
      with_reducible refine (rmul_any h1.arg h1.arg (by omega) (by omega)).mono ?_
      rintro e w2 ⟨v2, rfl, h2, hB2⟩
      have h2' := h2.tight (k' := 2048) HS.out
      have hW := below_trans hb hB2
      have hbs := hb.size
      clear h1 hB2 h2
      by_cases hodd : N % 2 = 1
      · have j2 : (N : Int) % 2 = 1 := by omega
        have j3 : ((N : Int) % 2 == 1) = true := by simp [j2]
        go_wp2_with fail
        with_reducible refine (rmul_any (h2'.arg.below (below_alloc _ _)) (arg_one w2 (x := b) ⟨by omega, hb2⟩) (by omega) (by omega)).mono ?_
        rintro e w3 ⟨v3, rfl, h3, hB3⟩
        have hW3 := below_trans hW (below_trans (below_alloc w2 _) hB3)
        have hfin : Num w.heap.size w3 v3 (b ^ N) 2048 := by
          have e3 : b ^ q * b ^ q * b = b ^ N := by have h := HH.out; rw [if_pos hodd] at h; exact h.symm
          rw [e3] at h3
          exact (h3.low (by have := hW.size; simp; omega)).tight HL.out
        have HF := hide hfin
        clear h3 hfin h2' hb hB3
        go_wp2
        go_ret
        exact ⟨_, rfl, HF.out, hW3⟩
      · have j2 : (N : Int) % 2 = 0 := by omega
        have j3 : ((N : Int) % 2 == 1) = false := by simp [j2]
        have hfin : Num w.heap.size w2 v2 (b ^ N) 2048 := by
          have e3 : b ^ q * b ^ q = b ^ N := by have h := HH.out; rw [if_neg hodd] at h; simpa using h.symm
          rw [← e3]
          exact h2'.low hbs
        have HF := hide hfin
        clear hfin h2' hb
        go_wp2
        go_ret
        exact ⟨_, rfl, HF.out, hW⟩

end Go.Proofs.YtlfkfeedopgfjacGreatDoor

namespace Go.Proofs.YtlfkfeedopgfjacGreatDoor
open Go.RowKit

theorem isLen_exists {b : Int} (h1 : b < 4294967296) : ∃ k, IsLen b k ∧ k ≤ 32 := by
  have key : ∀ m : Nat, b < p2 m → ∃ k, IsLen b k ∧ k ≤ m := by
    intro m
    induction m with
    | zero => intro h; exact ⟨0, ⟨h, fun h => by omega⟩, Nat.le_refl _⟩
    | succ m ih =>
      intro h
      rcases Int.lt_or_le b (p2 m) with h2 | h2
      · obtain ⟨k, hk, hm⟩ := ih h2
        exact ⟨k, hk, by omega⟩
      · exact ⟨m + 1, ⟨h, fun _ => by rw [Nat.add_sub_cancel]; exact h2⟩, Nat.le_refl _⟩
  exact key 32 (by have e : p2 32 = 4294967296 := by decide
                   rw [e]; exact h1)

set_option maxRecDepth 20000 in
set_option maxHeartbeats 4000000 in
theorem rpow_pv {w : World} {b n : Int} {k : Nat} (hb0 : 0 ≤ b) (hb1 : b < 4294967296) (hk : IsLen b k) (hk2 : k ≤ 32) (hN : n ≤ 9223372036854775807) :
    Calls Tryz.prog 6 #[.int .u32 b, .int .i64 n] w fun e w' => ∃ v, e = .returned (.tuple #[v, .bool (decide (InR b k n))]) ∧ Num w.heap.size w' v (PV b k n) 2048 ∧ Below w.heap.size w w' := by
  have hlen := rlen_any (arg_one w ⟨hb0, hb1⟩) (by omega) hk
  have Hlen := hide hlen
  clear hlen
  have hB0 : Below w.heap.size w (w.alloc (.cells #[.int .u32 b] 22)) := below_alloc _ _
  by_cases h : InR b k n
  · have hlt : b ^ n.toNat < Nt.pw 2048 := by
      obtain ⟨N, rfl⟩ := Int.eq_ofNat_of_zero_le h.1
      rw [Int.toNat_natCast]
      refine pow_lt hb0 hk ?_
      rcases h.2 with h2 | h2
      · exact Or.inl h2
      · by_cases hk0 : k = 0
        · subst hk0; right; omega
        · right
          have h4 : (N : Int) * (k : Int) ≤ 65536 := Int.le_trans (Int.mul_le_mul_of_nonneg_right h2 (by omega)) (Int.ediv_mul_le _ (by omega))
          have h3 : ((k * N : Nat) : Int) = (N : Int) * (k : Int) := by rw [Int.natCast_mul, Int.mul_comm]
          omega
    have hpv : PV b k n = b ^ n.toNat := by unfold PV; rw [if_pos h]
    have HPV := hide hpv
    have HLt := hide hlt
    have hn0 : ¬ n < 0 := by have := h.1; omega
    rw [decide_eq_true h]
    by_cases hb2 : 2 ≤ b
    · have hin : ¬ 65536 / (k : Int) < n := by have := h.2; omega
      have hin2 : decide (65536 / (k : Int) < n) = false := decide_eq_false hin
      have hkp := isLen_is hk hb2
      have hkz : ¬ (k : Int) = 0 := by omega
      have z0 : (b == 0) = false := by simp; omega
      have z1 : (b == 1) = false := by simp; omega
      obtain ⟨N, rfl⟩ := Int.eq_ofNat_of_zero_le h.1
      rw [Int.toNat_natCast] at HPV HLt
      obtain ⟨Q, hQ⟩ : ∃ Q, 65536 / (k : Int) = Q := ⟨_, rfl⟩
      rw [hQ] at hin hin2
      clear hlt hpv h hk
      go_enter Tryz.func6, Tryz.ntmps6
      go_wp2_with fail
      with_reducible refine Hlen.out.mono ?_
      rintro e w1 ⟨rfl, hB1⟩
      go_wp2_with fail
      with_reducible refine (rpower_any N (by omega) hb1 hN HLt.out).mono ?_
      rintro e w2 ⟨v, rfl, hv, hB2⟩
      have hW := below_trans (below_trans hB0 hB1) hB2
      have hfin : Num w.heap.size w2 v (PV b k N) 2048 := by rw [HPV.out]; exact hv.low (below_trans hB0 hB1).size
      have HF := hide hfin
      clear hv hfin hB1 hB2
      go_wp2
      go_ret2
      exact ⟨_, rfl, HF.out, hW⟩
    · have hin : ¬ 2 ≤ b := hb2
      by_cases hb1' : b = 1
      · subst hb1'
        have hone : PV 1 k n = 1 := by rw [HPV.out, Int.one_pow]
        have HO := hide hone
        clear hlt hpv h hk HPV HLt hone
        go_enter Tryz.func6, Tryz.ntmps6
        go_wp2_with fail
        with_reducible refine Hlen.out.mono ?_
        rintro e w1 ⟨rfl, hB1⟩
        go_wp2_with fail
        with_reducible refine rpower_zero.mono ?_
        rintro e w2 ⟨v, rfl, hv, hB2⟩
        have hW := below_trans (below_trans hB0 hB1) hB2
        have hfin : Num w.heap.size w2 v (PV 1 k n) 2048 := by rw [HO.out]; exact hv.low (below_trans hB0 hB1).size
        have HF := hide hfin
        clear hv hfin hB1 hB2
        go_wp2
        go_ret2
        exact ⟨_, rfl, HF.out, hW⟩
      · have hb00 : b = 0 := by omega
        subst hb00
        by_cases hnp : 0 < n
        · have hz : PV 0 k n = 0 := by rw [HPV.out]; exact Int.zero_pow (by omega)
          have HO := hide hz
          clear hlt hpv h hk HPV HLt hz
          go_enter Tryz.func6, Tryz.ntmps6
          go_wp2_with fail
          with_reducible refine Hlen.out.mono ?_
          rintro e w1 ⟨rfl, hB1⟩
          have hW := below_trans hB0 hB1
          go_wp2
          go_ret2
          exact ⟨_, rfl, by rw [HO.out]; exact num_nil _ _ _, hW⟩
        · have hnz : n = 0 := by omega
          subst hnz
          have hz : PV 0 k 0 = 1 := by rw [HPV.out]; rfl
          have HO := hide hz
          clear hlt hpv h hk HPV HLt hz
          go_enter Tryz.func6, Tryz.ntmps6
          go_wp2_with fail
          with_reducible refine Hlen.out.mono ?_
          rintro e w1 ⟨rfl, hB1⟩
          go_wp2_with fail
          with_reducible refine rpower_zero.mono ?_
          rintro e w2 ⟨v, rfl, hv, hB2⟩
          have hW := below_trans (below_trans hB0 hB1) hB2
          have hfin : Num w.heap.size w2 v (PV 0 k 0) 2048 := by rw [HO.out]; exact hv.low (below_trans hB0 hB1).size
          have HF := hide hfin
          clear hv hfin hB1 hB2
          go_wp2
          go_ret2
          exact ⟨_, rfl, HF.out, hW⟩
  · have hpv : PV b k n = 0 := by unfold PV; rw [if_neg h]
    have HPV := hide hpv
    rw [decide_eq_false h]
    rcases Int.lt_or_le n 0 with hn | hn
    · clear hpv h hk
      go_enter Tryz.func6, Tryz.ntmps6
      go_wp2_with fail
      with_reducible refine Hlen.out.mono ?_
      rintro e w1 ⟨rfl, hB1⟩
      have hW := below_trans hB0 hB1
      go_wp2
      go_ret2
      exact ⟨_, rfl, by rw [HPV.out]; exact num_nil _ _ _, hW⟩
    · have h2 : 2 ≤ b := by
        rcases Int.lt_or_le b 2 with h2 | h2
        · exact absurd ⟨hn, Or.inl h2⟩ h
        · exact h2
      have h3 : 65536 / (k : Int) < n := by
        rcases Int.lt_or_le (65536 / (k : Int)) n with h3 | h3
        · exact h3
        · exact absurd ⟨hn, Or.inr h3⟩ h
      have hn0 : ¬ n < 0 := by omega
      have hkp := isLen_is hk h2
      have hkz : ¬ (k : Int) = 0 := by omega
      clear hpv h hk
      go_enter Tryz.func6, Tryz.ntmps6
      go_wp2_with fail
      with_reducible refine Hlen.out.mono ?_
      rintro e w1 ⟨rfl, hB1⟩
      have hW := below_trans hB0 hB1
      go_wp2
      go_ret2
      exact ⟨_, rfl, by rw [HPV.out]; exact num_nil _ _ _, hW⟩

end Go.Proofs.YtlfkfeedopgfjacGreatDoor

namespace Go.Proofs.YtlfkfeedopgfjacGreatDoor
open Go.RowKit

def Far (u v : Value) : Prop := ∀ k, blk u = some k → blk v ≠ some k

theorem Far.symm {u v : Value} (h : Far u v) : Far v u := fun k hv hu => h k hu hv
theorem grown_of_below {w w' : World} (h : Below w.heap.size w w') : w.grownBy w' none := ⟨h.os, h.tape, h.output, h.size, fun k hk _ => h.block k hk⟩

/-- lists, each in memory of its own, none below base -/
structure Mem (base : Nat) (w : World) (all : List Value) : Prop where
  each : ∀ v ∈ all, ∃ xs c, Lies w v xs c ∧ xs.length ≤ 4000000
  far : all.Pairwise Far
  above : ∀ v ∈ all, ∀ k, blk v = some k → base ≤ k
theorem Mem.below {base : Nat} {w w' : World} {all : List Value} (h : Mem base w all) (hb : Below w.heap.size w w') : Mem base w' all :=
  ⟨fun v hv => by obtain ⟨xs, c, h1, h2⟩ := h.each v hv; exact ⟨xs, c, h1.below hb, h2⟩, h.far, h.above⟩
theorem Mem.off {base base' g : Nat} {lv : Value} {ps : List (Value × Value)} {w w' : World} {all : List Value} (h : Mem base w all) (hk : Kept base' w g lv ps) (ho : Off g lv w w') : Mem base w' all :=
  ⟨fun v hv => by obtain ⟨xs, c, h1, h2⟩ := h.each v hv; exact ⟨xs, c, ho.lies hk h1, h2⟩, h.far, h.above⟩

def nilled (vs : List Value) : List (Value × Value) := vs.map fun v => (v, .slice none 0 0)
theorem nilled_snoc (vs : List Value) (v : Value) : nilled (vs ++ [v]) = nilled vs ++ [(v, .slice none 0 0)] := by simp [nilled]
theorem nilled_length (vs : List Value) : (nilled vs).length = vs.length := by simp [nilled]
theorem Kept.below {base : Nat} {w w' : World} {g : Nat} {lv : Value} {ps : List (Value × Value)} (h : Kept base w g lv ps) (hb : Below w.heap.size w w') : Kept base w' g lv ps :=
  h.grown (grown_of_below hb) (fun _ e => by cases e)
/-- the book's end -/
theorem apart_mem {base : Nat} {w : World} {g : Nat} {lv : Value} {vs : List Value} (h : Kept base w g lv (nilled vs)) (hb : base ≤ w.heap.size) (hn : vs.length < 1000) (hm : Mem base w vs) :
    Calls Tryz.prog 10 #[.pointer (some ⟨g, 0, none⟩)] w fun e w' => e = .returned (.bool true) ∧ Below base w w' := by
  refine apart_any h hb (by rw [nilled_length]; exact hn) ?_ ?_ ?_ ?_
  · intro i hi
    simp only [nilled, List.getElem_map]
    exact hm.each _ (List.getElem_mem _)
  · intro i j hi hj hne k hk
    simp only [nilled, List.getElem_map] at hk ⊢
    rw [nilled_length] at hi hj
    rcases Nat.lt_or_gt_of_ne hne with hlt | hlt
    · exact (List.pairwise_iff_getElem.1 hm.far i j hi hj hlt) k hk
    · exact ((List.pairwise_iff_getElem.1 hm.far j i hj hi hlt).symm) k hk
  · intro i hi k hk
    simp only [nilled, List.getElem_map] at hk
    exact hm.above _ (List.getElem_mem _) k hk
  · intro i hi
    simp only [nilled, List.getElem_map]


theorem Mem.snoc {base : Nat} {w w' : World} {all : List Value} {v : Value} {n : Int} {k : Nat} (h : Mem base w all) (hb : Below w.heap.size w w') (hv : Num w.heap.size w' v n k) (hk : k ≤ 4000000) (hB : base ≤ w.heap.size) : Mem base w' (all ++ [v]) := by
  obtain ⟨zs, hm, _, _, hl⟩ := hv
  obtain ⟨l1, l2⟩ := hm.lies
  refine ⟨fun u hu => ?_, List.pairwise_append.2 ⟨h.far, by simp, fun u hu v' hv' => ?_⟩, fun u hu j hj => ?_⟩
  · rcases List.mem_append.1 hu with hu | hu
    · exact (h.below hb).each u hu
    · rw [List.mem_singleton.1 hu]
      exact ⟨zs, _, l1, by omega⟩
  · rw [List.mem_singleton.1 hv']
    obtain ⟨xs, c, h1, _⟩ := h.each u hu
    intro j hj hj2
    have := h1.lt hj
    have := l2 j hj2
    omega
  · rcases List.mem_append.1 hu with hu | hu
    · exact h.above u hu j hj
    · rw [List.mem_singleton.1 hu] at hj
      have := l2 j hj
      omega
theorem arr_off {base g : Nat} {lv : Value} {ps : List (Value × Value)} {w w' : World} (hk : Kept base w g lv ps) (ho : Off g lv w w') {k : Nat} {cs : Array Value} {t : TypeId} (h : w.heap[k]? = some (.cells cs t (0, 0))) (ht : t ≠ 82) (hne : k ≠ g) : w'.heap[k]? = some (.cells cs t (0, 0)) := by
  rw [ho.block k (Array.getElem?_eq_some_iff.1 h).1 hne ?_]
  · exact h
  · intro e
    rcases hk.own.2 with ⟨rfl, _⟩ | ⟨g', cap, cur, rfl, _, h1, _⟩
    · cases e
    · cases e
      rw [h] at h1
      injection h1 with h1
      injection h1 with _ h2
      exact ht h2

end Go.Proofs.YtlfkfeedopgfjacGreatDoor

namespace Go.Proofs.YtlfkfeedopgfjacGreatDoor
open Go.RowKit

set_option maxRecDepth 20000 in
set_option maxHeartbeats 8000000 in
theorem powers_walk {w : World} {b n c m : Int} (b0 : 0 ≤ b) (b1 : b < 4294967296) (c0 : 0 ≤ c) (c1 : c < 4294967296) (hn : n ≤ 9223372036854775807) (hm : m ≤ 9223372036854775807) :
    Calls Tryz.prog 3 #[.int .u32 b, .int .i64 n, .int .u32 c, .int .i64 m] w fun e w' => e = .returned (.bool true) ∧ Below w.heap.size w w' := by
  go_enter Tryz.func3, Tryz.ntmps3
  obtain ⟨w0, hw0⟩ : ∃ w0, w0 = ((w.alloc (.cells (bookCells 0 (.slice none 0 0)) 38)).alloc (.cells #[.int .u32 b, .int .u32 c, .int .u32 b] 39)).alloc (.cells #[.int .i64 n, .int .i64 m, .int .i64 n] 40) := ⟨_, rfl⟩
  have hs1 : ∀ o : Obj, (w.alloc o).heap.size = w.heap.size + 1 := fun o => by simp
  have hs2 : ∀ o o' : Obj, ((w.alloc o).alloc o').heap.size = w.heap.size + 1 + 1 := fun o o' => by simp
  have hbelow0 : Below w.heap.size w w0 := by rw [hw0]; exact ((below_alloc w _).alloc (by simp) _).alloc (by simp; omega) _
  have hbook0 : Kept w.heap.size w0 w.heap.size (.slice none 0 0) (nilled []) := by
    refine ⟨Nat.le_refl _, ?_, World.ownsRow_nil _ _ _ _⟩
    unfold BookAt
    rw [hw0, heap_alloc_old _ _ (by rw [hs2]; omega), heap_alloc_old _ _ (by rw [hs1]; omega), heap_alloc_new]
    rfl
  have hb0 : w0.heap[w.heap.size + 1]? = some (.cells #[.int .u32 b, .int .u32 c, .int .u32 b] 39 (0, 0)) := by
    rw [hw0, heap_alloc_old _ _ (by rw [hs2]; omega)]
    have h := heap_alloc_new (w.alloc (.cells (bookCells 0 (.slice none 0 0)) 38)) (.cells #[.int .u32 b, .int .u32 c, .int .u32 b] 39)
    rw [hs1] at h
    exact h
  have hp0 : w0.heap[w.heap.size + 1 + 1]? = some (.cells #[.int .i64 n, .int .i64 m, .int .i64 n] 40 (0, 0)) := by
    rw [hw0]
    have h := heap_alloc_new ((w.alloc (.cells (bookCells 0 (.slice none 0 0)) 38)).alloc (.cells #[.int .u32 b, .int .u32 c, .int .u32 b] 39)) (.cells #[.int .i64 n, .int .i64 m, .int .i64 n] 40)
    rw [hs2] at h
    exact h
  have hmem0 : Mem w.heap.size w0 [] := ⟨fun v hv => (by cases hv), List.Pairwise.nil, fun v hv => (by cases hv)⟩
  clear hs1 hs2
  go_wp2
  have hw0' : ((w.alloc (.cells #[.int .i64 0, .slice none 0 0, .slice none 0 0, .slice none 0 0, .slice none 0 0, .slice none 0 0, .slice none 0 0, .slice none 0 0, .slice none 0 0, .slice none 0 0, .slice none 0 0, .slice none 0 0, .slice none 0 0, .slice none 0 0, .slice none 0 0] 38)).alloc (.cells #[.int .u32 b, .int .u32 c, .int .u32 b] 39)).alloc (.cells #[.int .i64 n, .int .i64 m, .int .i64 n] 40) = w0 := by rw [hw0]; rfl
  rw [hw0']
  clear hw0 hw0'
  go_loopg [12] 3 (fun q i wr => ∃ (k : Nat) (all : List Value) (lv : Value), k + q = 3 ∧ i = .int .i64 k ∧ all.length = k ∧ Kept w.heap.size wr w.heap.size lv (nilled all) ∧ Mem w.heap.size wr all ∧ wr.heap[w.heap.size + 1]? = some (.cells #[.int .u32 b, .int .u32 c, .int .u32 b] 39 (0, 0)) ∧ wr.heap[w.heap.size + 1 + 1]? = some (.cells #[.int .i64 n, .int .i64 m, .int .i64 n] 40 (0, 0)) ∧ Below w.heap.size w wr)
  case atStart => exact ⟨0, [], .slice none 0 0, by omega, rfl, rfl, hbook0, hmem0, hb0, hp0, hbelow0⟩
  case round =>
    clear hbook0 hmem0 hb0 hp0 hbelow0
    obtain ⟨k, all, lv, hkq, rfl, hal, hkept, hmem, hbs, hps, hW⟩ := hrel
    have hsz := hW.size
    cases gk with
    | zero =>
      have hk3 : k = 3 := by omega
      have hap := apart_mem hkept hsz (by omega) hmem
      have k3 : ¬ (k : Int) < 3 := by omega
      clear hbs hps hkept hmem
      go_wp2_with fail
      with_reducible refine hap.mono ?_
      clear hap
      rintro e w1 ⟨rfl, hB⟩
      replace hW := hW.trans hB
      clear hB
      go_wp2_with fail
      with_reducible refine qlives_any.mono ?_
      rintro e w2 ⟨rfl, hB⟩
      replace hW := below_trans hW hB
      clear hB
      go_wp2
      go_ret
      exact ⟨rfl, hW⟩
    | succ q =>
      have k3 : (k : Int) < 3 := by omega
      obtain ⟨bk, nk, bk0, bk1, nk1, hcb, hcp⟩ : ∃ bk nk : Int, 0 ≤ bk ∧ bk < 4294967296 ∧ nk ≤ 9223372036854775807 ∧ wr.cell? ⟨w.heap.size + 1, k, none⟩ = some (.int .u32 bk) ∧ wr.cell? ⟨w.heap.size + 1 + 1, k, none⟩ = some (.int .i64 nk) := by
        have e1 := cell_of_row wr (w.heap.size + 1) k _ _ _ hbs
        have e2 := cell_of_row wr (w.heap.size + 1 + 1) k _ _ _ hps
        have hk : k < 3 := by omega
        match k, hk with
        | 0, _ => exact ⟨b, n, b0, b1, hn, e1, e2⟩
        | 1, _ => exact ⟨c, m, c0, c1, hm, e1, e2⟩
        | 2, _ => exact ⟨b, n, b0, b1, hn, e1, e2⟩
        | k + 3, h => omega
      obtain ⟨kk, hkk, hkk2⟩ := isLen_exists bk1
      have HK := hide hkk
      have hg1 : w.heap.size + 1 < wr.heap.size := (Array.getElem?_eq_some_iff.1 hbs).1
      have hg2 : w.heap.size + 1 + 1 < wr.heap.size := (Array.getElem?_eq_some_iff.1 hps).1
      have HBs := hide hbs
      have HPs := hide hps
      clear hkk hbs hps
      go_wp2
      go_region_with (go_at_call 6; with_reducible refine (rpow_pv bk0 bk1 HK.out hkk2 nk1).mono ?_; rintro e w1 ⟨v1, rfl, h1, hB1⟩)
      all_goals go_wp2
      all_goals (
        have hBd : Below wr.heap.size wr w1 := below_trans (Below.refl _ _).drew hB1
        have hcb1 := (hBd.cell (p := ⟨w.heap.size + 1, k, none⟩) hg1).trans hcb
        have hcp1 := (hBd.cell (p := ⟨w.heap.size + 1 + 1, k, none⟩) hg2).trans hcp
        have hs1 := hBd.size
        have hs1' : w.heap.size ≤ w1.heap.size := by omega
        clear hB1)
      all_goals go_region_with (go_at_call 7; with_reducible refine (pow_pv bk0 bk1 HK.out nk1).mono ?_; rintro e w2 ⟨v2, rfl, h2, hB2⟩)
      all_goals (
        have hBe : Below w1.heap.size w1 w2 := below_trans (Below.refl _ _).drew hB2
        have hW2 := below_trans (below_trans hW hBd) hBe
        have hk2 := (hkept.below hBd).below hBe
        have hm2 := (hmem.below hBd).snoc hBe h2 (by omega) hs1'
        have hbs2 : w2.heap[w.heap.size + 1]? = some (.cells #[.int .u32 b, .int .u32 c, .int .u32 b] 39 (0, 0)) := by rw [hBe.block _ (by omega), hBd.block _ hg1]; exact HBs.out
        have hps2 : w2.heap[w.heap.size + 1 + 1]? = some (.cells #[.int .i64 n, .int .i64 m, .int .i64 n] 40 (0, 0)) := by rw [hBe.block _ (by omega), hBd.block _ hg2]; exact HPs.out
        have hsame := same_num h2 (h1.below hBe) rfl
        obtain ⟨zs, ⟨ao, rfl, _, _⟩, _⟩ := h2
        have Hbs := hide hbs2
        have Hps := hide hps2
        have Hk2 := hide hk2
        have Hm2 := hide hm2
        have Hsame := hide hsame
        clear hBd hBe hB2 h1 hkept hmem HBs HPs hcb hcp hcb1 hcp1 hW hbs2 hps2 hk2 hm2 hsame)
      all_goals go_wp2_with fail
      all_goals (
        with_reducible refine Hsame.out.mono ?_
        clear Hsame
        rintro e w3 ⟨rfl, hB3⟩
        have Hk3 := hide (Hk2.out.below hB3)
        have Hm3 := hide (Hm2.out.below hB3)
        have hW3 := below_trans hW2 hB3
        have hl1 : w.heap.size + 1 < w2.heap.size := (Array.getElem?_eq_some_iff.1 Hbs.out).1
        have hl2 : w.heap.size + 1 + 1 < w2.heap.size := (Array.getElem?_eq_some_iff.1 Hps.out).1
        have Hb3 : Hid (w3.heap[w.heap.size + 1]? = some (.cells #[.int .u32 b, .int .u32 c, .int .u32 b] 39 (0, 0))) := hide (by rw [hB3.block _ hl1]; exact Hbs.out)
        have Hp3 : Hid (w3.heap[w.heap.size + 1 + 1]? = some (.cells #[.int .i64 n, .int .i64 m, .int .i64 n] 40 (0, 0))) := hide (by rw [hB3.block _ hl2]; exact Hps.out)
        clear Hk2 Hm2 Hbs Hps hW2 hB3 hl1 hl2)
      all_goals go_wp2_with fail
      all_goals (
        with_reducible refine (nat_any Hk3.out hW3.size (by rw [nilled_length]; omega)).mono ?_
        rintro e w4 ⟨rfl, lv', hk4, hoff⟩
        have hm4 := Hm3.out.off Hk3.out hoff
        have hb4 := arr_off Hk3.out hoff Hb3.out (by decide) (by omega)
        have hp4 := arr_off Hk3.out hoff Hp3.out (by decide) (by omega)
        have hW4 := hW3.trans (hoff.below Hk3.out hW3.size)
        rw [← nilled_snoc] at hk4
        have HK4 := hide hk4
        have HM4 := hide hm4
        have HB4 := hide hb4
        have HP4 := hide hp4
        clear hk4 hm4 hb4 hp4 Hk3 Hm3 Hb3 Hp3 hoff)
      all_goals go_wp2
      all_goals go_roundg q
      all_goals first
        | exact ⟨k + 1, _, lv', by omega, by first | rfl | simp, by simp [hal], HK4.out, HM4.out, HB4.out, HP4.out, hW4⟩
        | omega

/-- of numbers as the row's reading hands them over -/
theorem powers_wf {w : World} {b n c m : Int} (hb : (Lit.int .u32 b).wf = true) (hn : (Lit.int .i64 n).wf = true) (hc : (Lit.int .u32 c).wf = true) (hm : (Lit.int .i64 m).wf = true) :
    Calls Tryz.prog 3 #[.int .u32 b, .int .i64 n, .int .u32 c, .int .i64 m] w fun e w' => e = .returned (.bool true) ∧ Below w.heap.size w w' := by
  have h1 : 0 ≤ b ∧ b ≤ 4294967295 := by simpa [Lit.wf, IntKind.min, IntKind.max, IntKind.signed, IntKind.bits] using hb
  have h2 : 0 ≤ c ∧ c ≤ 4294967295 := by simpa [Lit.wf, IntKind.min, IntKind.max, IntKind.signed, IntKind.bits] using hc
  have h3 : -9223372036854775808 ≤ n ∧ n ≤ 9223372036854775807 := by simpa [Lit.wf, IntKind.min, IntKind.max, IntKind.signed, IntKind.bits] using hn
  have h4 : -9223372036854775808 ≤ m ∧ m ≤ 9223372036854775807 := by simpa [Lit.wf, IntKind.min, IntKind.max, IntKind.signed, IntKind.bits] using hm
  exact powers_walk h1.1 (by omega) h2.1 (by omega) h3.2 h4.2

end Go.Proofs.YtlfkfeedopgfjacGreatDoor
