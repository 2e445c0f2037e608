/- EBm, EFw, EShp, ETn -/
import Derived.Test.YtinfkoiifemjmaaGreatDoorS19
import Derived.Test.YtinfkoiifemjmaaGreatDoorS23
import Derived.Test.YtinfkoiifemjmaaGreatDoorS28
import Derived.Test.YtinfkoiifemjmaaGreatDoorS29
import Derived.Test.YtinfkoiifemjmaaGreatDoorS31
namespace Go.Proofs.YtinfkoiifemjmaaGreatDoor
open Go.RowKit
set_option linter.unusedVariables false

/-- what is laid out -/
structure Laid (ng : Bool) (ds : List Int) (P : Int) (T : List Int) : Prop where
  ok : (scG T 0 0).2 = true
  sg : headB T 45 = ng
  val : ∃ c : Nat, dg (voDs T) = dg ds * tn c ∧ voPt T - (voDs T).length = P - ds.length - c
/-- what it says is the nearest pattern of the digits -/
theorem Laid.dv {ng : Bool} {ds T : List Int} {P F L I r : Int} (h : Laid ng ds P T) (hv : DV F L I (dg (voDs T)) (voPt T - (voDs T).length) r) : DV F L I (dg ds) (P - ds.length) r := by
  obtain ⟨c, e1, e2⟩ := h.val
  rw [e1, e2] at hv
  exact dv_ahead c hv

theorem tn_ten (n : Nat) : tn n = 10 ^ n := rfl
/-- the nearest pattern, by layer 7's words and by layer 6's -/
theorem dv_nx {F L I N q r : Int} (hL : L ≤ 0) (hq : -500 ≤ q) : DV F L I N q r ↔ NX F L I (N * TT (gG L) q) r := by
  obtain ⟨K, hK⟩ : ∃ K, tn (500 - (-q).toNat) = K := ⟨_, rfl⟩
  have K0 : 0 < K := by rw [← hK]; exact tn_pos _
  have e5 : E5 = tn (-q).toNat * K := by
    rw [← hK, ← tn_add, show (-q).toNat + (500 - (-q).toNat) = 500 by omega]; rfl
  have eX : N * TT (gG L) q = 2 * (N * tn q.toNat * p2 (-L).toNat) * K := by
    have e1 : (10 : Int) ^ (q + 500).toNat = tn q.toNat * K := by
      rw [← hK, ← tn_add, ← tn_ten, show q.toNat + (500 - (-q).toNat) = (q + 500).toNat by omega]
    have e2 : gG L = 2 * p2 (-L).toNat := by
      unfold gG; rw [show (1 - L).toNat = (-L).toNat + 1 by omega]; rfl
    unfold TT
    rw [e1, e2]; grind
  have eH : ∀ t, vHi F L t = mid2 F L t * tn (-q).toNat * K := fun t => by unfold vHi mid2; rw [e5]; grind
  have eL : ∀ t, vLo F L t = mid2 F L (t - 1) * tn (-q).toNat * K := fun t => by
    unfold vLo mid2; rw [e5, show t - 1 + 1 = t by omega]; grind
  have eq : ∀ {x y : Int}, x * K = y * K ↔ x = y := fun {x y} => eq_scale K0
  unfold DV DN NX
  rw [eX, eH, eL, mle K0, mle K0, eq, eq]
theorem bv_dg : ∀ ds : List Int, bv ds = dg ds
  | [] => rfl
  | a :: x => by rw [bv, dg, bv_dg x, tn_ten]
end Go.Proofs.YtinfkoiifemjmaaGreatDoor

namespace Go.Proofs.YtinfkoiifemjmaaGreatDoor
open Go.RowKit
set_option linter.unusedVariables false

theorem txt_dig (k : Nat) (c : Int) : Dgt (txt k c) := by
  unfold txt
  split
  · intro x hx; simp at hx; omega
  · exact dl_byte k c
theorem str_inj : ∀ {a b : List Int}, Byt a → Byt b → strOfNums a = strOfNums b → a = b := by
  intro a b ha hb h
  have h1 := str_list a
  rw [h, str_list b] at h1
  clear h
  induction a generalizing b with
  | nil => cases b with
    | nil => rfl
    | cons y b => simp [by8] at h1
  | cons x a ih =>
    cases b with
    | nil => simp [by8] at h1
    | cons y b =>
      simp only [by8, List.map_cons, List.cons.injEq] at h1
      have hx := ha x List.mem_cons_self
      have hy := hb y List.mem_cons_self
      have e : x = y := by
        have := congrArg UInt8.toNat h1.1
        simp at this
        omega
      rw [e, ih (fun z hz => ha z (List.mem_cons_of_mem _ hz)) (fun z hz => hb z (List.mem_cons_of_mem _ hz)) h1.2]
/-- Td of the very digits -/
theorem td_txt {F L s p c : Int} {k M fr : Nat} (hfr : F = p2 fr) (h0 : 0 < s) (hL : -1074 ≤ L) (hL0 : L ≤ 0) (he : est F L s ≤ 1023 - fr) (hM : 2 * F ≤ 10 ^ M) (hM2 : M ≤ 16) (h : ShP F L s p k c) (h17 : k ≤ 17) : ∃ N, Td F L s M (strOfNums (txt k c)) (pt k c p) (txt k c) N := by
  obtain ⟨ds, N, td⟩ := td_of hfr h0 hL hL0 he hM hM2 h h17
  have e : txt k c = ds := str_inj (txt_dig k c).byt (fun x hx => by have := td.dg x hx; omega) td.t
  rw [← e] at td
  exact ⟨N, td⟩
end Go.Proofs.YtinfkoiifemjmaaGreatDoor

namespace Go.Proofs.YtinfkoiifemjmaaGreatDoor
open Go.RowKit
set_option linter.unusedVariables false

theorem td_64 {s p c : Int} {k : Nat} (s0 : 0 < s) (s1 : s < 9218868437227405312) (sh : ShP 4503599627370496 (-1074) s p k c) (h17 : k ≤ 17) : ∃ N, Td 4503599627370496 (-1074) s 16 (strOfNums (txt k c)) (pt k c p) (txt k c) N :=
  td_txt fr_d s0 (by decide) (by decide) (by have := est_top (F := 4503599627370496) (L := -1074) (s := s) (n := 2047) (by decide) (by decide) (by omega) (by omega); omega) (by decide) (by decide) sh h17
set_option maxHeartbeats 4000000 in
set_option maxRecDepth 100000 in
theorem show_sh {w : World} (T : Lays w) (U : Brn w) (hT : Lib.TabIs Tryz.prog w "internal/strconv.uint64pow10" .u64 Lib.pow10Tab) (hG : 14 < w.heap.size) {x s : Int} {ng : Bool} (x0 : 0 ≤ x) (x1 : x < 18446744073709551616) (hs : x % 9223372036854775808 = s) (hng : ng = decide (9223372036854775808 ≤ x)) (s0 : 0 < s) (s1 : s < 9218868437227405312) :
    Calls Tryz.prog 9 #[.int .u64 x] w fun e w' => ∃ p k c, ShP 4503599627370496 (-1074) s p k c ∧ k ≤ 17 ∧ e = .returned (.string (strOfNums (layoutT ng (txt k c) (pt k c p)))) ∧ Below w.heap.size w w' := by
  have HCL := hide (class_64 T x s x0 x1 hs)
  obtain ⟨k, hk⟩ : ∃ k, cls 9223372036854775808 4503599627370496 s = k := ⟨_, rfl⟩
  have k5 : (k == 5) = false ∧ (k == 4) = false ∧ (k == 1) = false := by
    rw [← hk]
    unfold cls
    refine ⟨beq_eq_false_iff_ne.2 ?_, beq_eq_false_iff_ne.2 ?_, beq_eq_false_iff_ne.2 ?_⟩ <;> (repeat' split) <;> omega
  obtain ⟨k5, k4, k1⟩ := k5
  rw [hk] at HCL
  have HD := hide (fun (W : World) (TW : Lays W) (UW : Brn W) => digits_d (w := W) TW UW x s ng x0 x1 hs hng)
  clear hk hs hng
  go_enter Tryz.func9, Tryz.ntmps9
  go_wp2_with fail
  refine HCL.out.mono ?_
  rintro e w1 ⟨rfl, b1⟩
  clear HCL
  go_wp2_with fail
  refine (HD.out _ (T.below b1) (U.below b1)).mono ?_
  clear HD
  rintro r w2 ⟨v, ok, rfl, dg, b2⟩
  obtain ⟨rfl, p, kk, c, sh, h17, rfl⟩ := dg.2.2 s0 s1
  obtain ⟨N, td⟩ := td_64 s0 s1 sh h17
  have HSH := hide (And.intro sh h17)
  obtain ⟨P, hP⟩ : ∃ P, pt kk c p = P := ⟨_, rfl⟩
  have HP := hide hP
  rw [hP] at td ⊢
  obtain ⟨tx, htx⟩ : ∃ tx, strOfNums (txt kk c) = tx := ⟨_, rfl⟩
  have hTX : tx = strOfNums (txt kk c) := htx.symm
  rw [htx]
  have b12 := below_trans b1 b2
  have C := cell3_new w2 (.bool ng) (.string tx) (.int .i64 P) 23
  have K := below_trans b12 (bel_new w2 (.cells #[.bool ng, .string tx, .int .i64 P] 23))
  have HPT := hide ((show Pt w.heap.size w from ⟨hG, hT⟩).below K)
  have HY := hide (fun (W : World) (h1 : Lib.TabIs Tryz.prog W "internal/strconv.uint64pow10" .u64 Lib.pow10Tab) (h2 : 14 < W.heap.size) => layout_yes (w := W) (ng := ng) (s := tx) (es := txt kk c) (n := P) (by have := td.p0; omega) (by have := td.p1; omega) (txt_dig kk c).byt hTX (by have := td.len; have := td.n2; omega) (td_bare td) h1 h2)
  have c0 := C.c0; have c1 := C.c1; have c2 := C.c2
  have ks := K.size
  clear b1 b2 b12 C dg sh td htx hTX hP hT h17
  go_wp2_with fail
  refine (HY.out _ HPT.out.2 (by simp at ks ⊢; omega)).mono ?_
  rintro e w3 ⟨rfl, b3⟩
  have KK := below_trans K b3
  clear K b3 HY
  go_wp2
  go_ret
  exact ⟨p, kk, c, HSH.out.1, HSH.out.2, by rw [HP.out]; rfl, KK⟩
/-- what is shown, in one word -/
structure Shn (s : Int) (ng : Bool) (T : List Int) : Prop where
  dv : ∀ r, DV 4503599627370496 (-1074) 9218868437227405312 (dg (voDs T)) (voPt T - (voDs T).length) r → r = s
  ok : (scG T 0 0).2 = true
  sg : headB T 45 = ng
  len : T.length ≤ 25
  by_ : Byt T
end Go.Proofs.YtinfkoiifemjmaaGreatDoor

namespace Go.Proofs.YtinfkoiifemjmaaGreatDoor
open Go.RowKit
set_option linter.unusedVariables false

/-- what ecma's functions look at -/
structure Ev (w : World) : Prop where
  T : Lays w
  U : Brn w
  P : Lib.TabIs Tryz.prog w "internal/strconv.uint64pow10" .u64 Lib.pow10Tab
  g : 14 < w.heap.size
  e : ∃ tE pE, w.cell? ⟨0, 0, none⟩ = some (.iface tE pE)
  h : 0 < w.heap.size
theorem Ev.below {w w' : World} (h : Ev w) (hb : Below w.heap.size w w') : Ev w' := by
  refine ⟨h.T.below hb, h.U.below hb, ((show Pt w.heap.size w from ⟨h.g, h.P⟩).below hb).2, Nat.lt_of_lt_of_le h.g hb.size, ?_, Nat.lt_of_lt_of_le h.h hb.size⟩
  obtain ⟨tE, pE, he⟩ := h.e
  exact ⟨tE, pE, (hb.cell (p := ⟨0, 0, none⟩) h.h).trans he⟩
/-- what Read answers: no number, too great, or the pattern -/
def RdIs (es : List Int) (e : Ending) : Prop :=
  (∃ u v, e = .returned (.tuple #[.int .u64 0, .iface u v])) ∨
  ((scG es 0 0).2 = true ∧ ∃ r, 0 ≤ r ∧ r < 9218868437227405312 ∧ DV 4503599627370496 (-1074) 9218868437227405312 (dg (voDs es)) (voPt es - (voDs es).length) r ∧ e = .returned (.tuple #[.int .u64 (r + b2i (headB es 45) * 9223372036854775808), .nilIface]))
end Go.Proofs.YtinfkoiifemjmaaGreatDoor
