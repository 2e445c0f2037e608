/- utf: join, FromUnits -/
import Derived.Test.YtddamkdkaijfjaaGreatDoorUText
namespace Go.Proofs.YtddamkdkaijfjaaGreatDoor
open Go.RowKit
set_option linter.unusedVariables false

/-- the code point of the first unit, or of the first two -/
def uJn : List Int → Int × Nat
  | [] => (0, 0)
  | a :: r => if uHi a = false ∧ uLo a = false then (a, 1) else if uLo a = true then (0, 0) else
    match r with
    | [] => (0, 0)
    | b :: _ => if uLo b = true then (65536 + (a - 55296) * 1024 + b - 56320, 2) else (0, 0)
theorem uHi_iff {a : Int} : uHi a = true ↔ 55296 ≤ a ∧ a < 56320 := by unfold uHi; simp
theorem uLo_iff {a : Int} : uLo a = true ↔ 56320 ≤ a ∧ a < 57344 := by unfold uLo; simp
theorem uHi_no {a : Int} : uHi a = false ↔ ¬ (55296 ≤ a ∧ a < 56320) := by rw [← uHi_iff]; simp
theorem uLo_no {a : Int} : uLo a = false ↔ ¬ (56320 ≤ a ∧ a < 57344) := by rw [← uLo_iff]; simp
def uU16 (us : List Int) : Prop := ∀ x ∈ us, 0 ≤ x ∧ x ≤ 65535
theorem uJn_uU {p : Int} (r : List Int) (h : uPt p = true) : uJn (uU p ++ r) = (p, (uU p).length) := by
  have hp := uPt_iff.1 h
  unfold uU
  by_cases g : p < 65536
  · rw [if_pos g]
    simp only [List.cons_append, List.nil_append, uJn]
    rw [if_pos ⟨uHi_no.2 (by omega), uLo_no.2 (by omega)⟩]
    rfl
  · rw [if_neg g]
    simp only [List.cons_append, List.nil_append, uJn]
    have a1 : uHi (55296 + (p - 65536) / 1024) = true := uHi_iff.2 (by omega)
    have a2 : uLo (55296 + (p - 65536) / 1024) = false := uLo_no.2 (by omega)
    have a3 : uLo (56320 + (p - 65536) % 1024) = true := uLo_iff.2 (by omega)
    rw [a1, a2, a3]
    simp
    omega
theorem uJn_cases {us : List Int} (hu : uU16 us) (h : (uJn us).2 ≠ 0) : uPt (uJn us).1 = true ∧ (uU (uJn us).1).length = (uJn us).2 ∧ us = uU (uJn us).1 ++ us.drop (uJn us).2 := by
  cases us with
  | nil => exact absurd rfl h
  | cons a r =>
    have ha := hu a List.mem_cons_self
    simp only [uJn] at h ⊢
    by_cases g1 : uHi a = false ∧ uLo a = false
    · rw [if_pos g1] at h ⊢
      have b1 := uHi_no.1 g1.1
      have b2 := uLo_no.1 g1.2
      have e : uU a = [a] := by unfold uU; rw [if_pos (by omega)]
      simp only [e]
      exact ⟨uPt_iff.2 (by omega), rfl, by simp⟩
    · rw [if_neg g1] at h ⊢
      by_cases g2 : uLo a = true
      · rw [if_pos g2] at h; exact absurd rfl h
      · rw [if_neg g2] at h ⊢
        cases r with
        | nil => exact absurd rfl h
        | cons b t =>
          simp only at h ⊢
          by_cases g3 : uLo b = true
          · rw [if_pos g3] at h ⊢
            have b2 : uLo a = false := by simpa using g2
            have b1 : uHi a = true := by
              cases hh : uHi a
              · exact absurd ⟨hh, b2⟩ g1
              · rfl
            have c1 := uHi_iff.1 b1
            have c3 := uLo_iff.1 g3
            have e : uU (65536 + (a - 55296) * 1024 + b - 56320) = [a, b] := by
              unfold uU
              rw [if_neg (by omega)]
              simp only [List.cons.injEq, and_true]
              omega
            simp only [e]
            exact ⟨uPt_iff.2 (by omega), rfl, by simp⟩
          · rw [if_neg g3] at h; exact absurd rfl h
/-- code points as far as units have some, and what is left -/
structure UJoin (us ps t : List Int) : Prop where
  pts : uPts ps
  eq : us = ps.flatMap uU ++ t
  bad : (uJn t).2 = 0
theorem uU_len' (p : Int) : (uU p).length ≤ 2 := by unfold uU; split <;> simp
theorem uU_pos (p : Int) : 0 < (uU p).length := by unfold uU; split <;> simp
theorem UJoin.exists : ∀ (n : Nat) {us : List Int}, us.length ≤ n → uU16 us → ∃ ps t, UJoin us ps t := by
  intro n
  induction n with
  | zero =>
    intro us hl hu
    have : us = [] := List.length_eq_zero_iff.1 (by omega)
    subst this
    exact ⟨[], [], fun p hp => absurd hp (by simp), rfl, rfl⟩
  | succ n ih =>
    intro us hl hu
    by_cases h : (uJn us).2 = 0
    · exact ⟨[], us, fun p hp => absurd hp (by simp), rfl, h⟩
    · obtain ⟨h1, h2, h3⟩ := uJn_cases hu h
      have hpos := uU_pos (uJn us).1
      obtain ⟨ps, t, hs⟩ := ih (us := us.drop (uJn us).2) (by rw [List.length_drop]; omega) (fun x hx => hu x (List.mem_of_mem_drop hx))
      refine ⟨(uJn us).1 :: ps, t, uPts.mk h1 hs.pts, ?_, hs.bad⟩
      rw [List.flatMap_cons, List.append_assoc, ← hs.eq]
      exact h3
theorem UJoin.text {ps : List Int} (h : uPts ps) : UJoin (ps.flatMap uU) ps [] := ⟨h, by simp, rfl⟩
theorem uJn_zero {us : List Int} (h : (uJn us).2 = 0) : uJn us = (0, 0) := by
  cases us with
  | nil => rfl
  | cons a r =>
    simp only [uJn] at h ⊢
    split at h
    · exact absurd h (by simp)
    · rename_i g1
      rw [if_neg g1]
      split at h
      · rename_i g2; rw [if_pos g2]
      · rename_i g2
        rw [if_neg g2]
        cases r with
        | nil => rfl
        | cons b t =>
          simp only at h ⊢
          split at h
          · exact absurd h (by simp)
          · rename_i g3; rw [if_neg g3]

set_option maxRecDepth 100000 in
set_option maxHeartbeats 4000000 in
theorem join_any {v : Value} {us : List Int} {w : World} (hr : Reads .u16 w v us) (hu : uU16 us) (hl : 0 < us.length) (hm : us.length ≤ 17592186044416) :
    Calls Tryz.prog 85 #[v] w fun e w' => e = .returned (.tuple #[.int .i32 (uJn us).1, .int .i64 ((uJn us).2 : Nat)]) ∧ w' = w := by
  obtain ⟨ao, ca, rfl, hxl, hxm, hxc⟩ := hr
  unfold maxLen at hxm
  obtain ⟨b1, o1, rfl, _, hc1⟩ := hxc hl
  have g0 := hc1 0 hl
  have wr : ∀ x : Int, 0 ≤ x → x < 2147483648 → IntKind.i32.wrap x = x := fun x a b => wraps_i32 x a (by omega)
  cases us with
  | nil => simp at hl
  | cons a r =>
    have ha := hu a List.mem_cons_self
    have g0' : w.cell? ⟨b1, o1, none⟩ = some (.int .u16 a) := by simpa [Nt.lb] using g0
    have wa := wr a (by omega) (by omega)
    simp only [uJn]
    have HH := hide (fun w => isHigh_any (w := w) (r := a))
    have HL := hide (fun w => isLow_any (w := w) (r := a))
    clear g0
    cases hh : uHi a with
    | false =>
      cases hlo : uLo a with
      | false =>
        rw [if_pos ⟨rfl, rfl⟩]
        rw [hh] at HH
        rw [hlo] at HL
        clear hc1 wr
        go_enter Tryz.func85, Tryz.ntmps85
        go_wp2_with (first | (go_at_call 91; refine (HH.out _).mono ?_; rintro e w' ⟨rfl, rfl⟩) | (go_at_call 92; refine (HL.out _).mono ?_; rintro e w' ⟨rfl, rfl⟩))
        go_ret2
        exact ⟨rfl, rfl⟩
      | true =>
        rw [if_neg (by simp), if_pos rfl]
        rw [hh] at HH
        rw [hlo] at HL
        clear hc1 wr
        go_enter Tryz.func85, Tryz.ntmps85
        go_wp2_with (first | (go_at_call 91; refine (HH.out _).mono ?_; rintro e w' ⟨rfl, rfl⟩) | (go_at_call 92; refine (HL.out _).mono ?_; rintro e w' ⟨rfl, rfl⟩))
        go_ret2
        exact ⟨rfl, rfl⟩
    | true =>
      have hr1 := uHi_iff.1 hh
      have hlo : uLo a = false := uLo_no.2 (by omega)
      rw [hlo, if_neg (by simp), if_neg (by simp)]
      rw [hh] at HH
      rw [hlo] at HL
      cases r with
      | nil =>
        clear hc1 wr
        have q1 : (([a] : List Int).length : Int) < 2 := by simp
        go_enter Tryz.func85, Tryz.ntmps85
        go_wp2_with (first | (go_at_call 91; refine (HH.out _).mono ?_; rintro e w' ⟨rfl, rfl⟩) | (go_at_call 92; refine (HL.out _).mono ?_; rintro e w' ⟨rfl, rfl⟩))
        go_ret2
        exact ⟨rfl, rfl⟩
      | cons b t =>
        have hbb := hu b (by simp)
        have g1 : w.cell? ⟨b1, o1 + 1, none⟩ = some (.int .u16 b) := by
          have := hc1 1 (by simp)
          simpa [Nt.lb] using this
        have wb := wr b (by omega) (by omega)
        have HLb := hide (fun w => isLow_any (w := w) (r := b))
        have q1 : ¬ ((a :: b :: t).length : Int) < 2 := by simp; omega
        have q2 : (1 : Int) < ((a :: b :: t).length : Int) := by simp; omega
        obtain ⟨n, hn⟩ : ∃ n, (a :: b :: t).length = n := ⟨_, rfl⟩
        rw [hn] at q1 q2 hxl hl hm ⊢
        clear hc1 hn hu hxc
        simp only
        cases hlb : uLo b with
        | false =>
          rw [if_neg (by simp)]
          rw [hlb] at HLb
          clear wr
          go_enter Tryz.func85, Tryz.ntmps85
          go_wp2_with (first | (go_at_call 91; refine (HH.out _).mono ?_; rintro e w' ⟨rfl, rfl⟩) | (go_at_call 92; first | ((with_reducible refine (HL.out _).mono ?_); rintro e w' ⟨rfl, rfl⟩) | ((with_reducible refine (HLb.out _).mono ?_); rintro e w' ⟨rfl, rfl⟩)))
          go_ret2
          exact ⟨rfl, rfl⟩
        | true =>
          rw [if_pos rfl]
          rw [hlb] at HLb
          have hr2 := uLo_iff.1 hlb
          clear wr
          go_enter Tryz.func85, Tryz.ntmps85
          go_wp2_with (first | (go_at_call 91; refine (HH.out _).mono ?_; rintro e w' ⟨rfl, rfl⟩) | (go_at_call 92; first | ((with_reducible refine (HL.out _).mono ?_); rintro e w' ⟨rfl, rfl⟩) | ((with_reducible refine (HLb.out _).mono ?_); rintro e w' ⟨rfl, rfl⟩)))
          go_ret2
          exact ⟨ret_pair (by omega) rfl, rfl⟩

theorem reads_drop {k : IntKind} {w : World} {b o n : Nat} {us : List Int} (hc : ∀ i, i < us.length → w.cell? ⟨b, o + i, none⟩ = some (.int k (Nt.lb us i))) (hb : b < w.heap.size) {j cap : Nat} (hj : j ≤ us.length) (hcap : us.length ≤ cap) (hm : cap ≤ 9223372036854775807) (hn : n = us.length - j) : Reads k w (.slice (some ⟨b, o + j, none⟩) n (cap - j)) (us.drop j) := by
  subst hn
  refine ⟨_, _, by rw [List.length_drop], by rw [List.length_drop]; omega, by unfold maxLen; omega, fun hp => ⟨b, o + j, rfl, hb, fun i hi => ?_⟩⟩
  rw [List.length_drop] at hi
  rw [Nat.add_assoc, hc (j + i) (by omega)]
  simp [Nt.lb, List.getElem?_drop]

set_option maxRecDepth 100000 in
set_option maxHeartbeats 4000000 in
theorem fromunits_any {v : Value} {us ps t : List Int} {w : World} (hr : Reads .u16 w v us) (hu : uU16 us) (hl : us.length ≤ 17592186044416) (hJ : UJoin us ps t) :
    Calls Tryz.prog 20 #[v] w fun e w' => e = .returned (.tuple #[.string (strOfNums (if t.isEmpty then uFlat ps else [])), .bool t.isEmpty]) ∧ Below w.heap.size w w' := by
  obtain ⟨ao, ca, rfl, hxl, hxm, hxc⟩ := hr
  unfold maxLen at hxm
  have hbd := Bd.new w
  have hK0 : Below w.heap.size w (w.alloc (.cells #[.pointer none, .slice none 0 0] 71)) := (Below.refl _ _).alloc (Nat.le_refl _) _
  obtain ⟨R, hR⟩ : ∃ R : Bool, t.isEmpty = R := ⟨_, rfl⟩
  rw [hR]
  have HR := hide hR
  have HU := hide hu
  have HJ := hide hJ
  have hpl : ps.length ≤ 17592186044416 := by
    have := congrArg List.length hJ.eq
    rw [List.length_append] at this
    have g : ∀ qs : List Int, qs.length ≤ (qs.flatMap uU).length := fun qs => by
      induction qs with
      | nil => simp
      | cons x xs ih => rw [List.flatMap_cons, List.length_append, List.length_cons]; have := uU_pos x; omega
    have := g ps
    omega
  obtain ⟨N, hN⟩ : ∃ N, us.length = N := ⟨_, rfl⟩
  have HN := hide hN
  rw [hN] at hl hxl ⊢
  clear hR hu hJ hN
  go_enter Tryz.func20, Tryz.ntmps20
  go_wp2
  obtain ⟨w0, hw0⟩ : ∃ x, x = w.alloc (.cells #[.pointer none, .slice none 0 0] 71) := ⟨_, rfl⟩
  rw [← hw0] at hbd hK0 ⊢
  clear hw0
  go_loopg [5, 6, 7] N (fun c i s6 s7 wr => ∃ (k : Nat) (ds rest : List Int), k ≤ N ∧ i = .int .i64 k ∧ c = N - k ∧ Hid (ps = ds ++ rest) ∧ Hid ((ds.flatMap uU).length = k) ∧ Hid (Bd w.heap.size w.heap.size (uFlat ds) wr) ∧ Below w.heap.size w wr)
  case atStart => exact ⟨0, [], ps, by omega, rfl, by omega, hide rfl, hide rfl, hide hbd, hK0⟩
  case round =>
    obtain ⟨k, ds, rest, hk, rfl, hg, hp, hkd, hB, hbr⟩ := hrel
    have hzr := hbr.size
    have hrest : us.drop k = rest.flatMap uU ++ t := by
      rw [HJ.out.eq, hp.out, List.flatMap_append, List.append_assoc, ← hkd.out, List.drop_left]
    have HT := hide hrest
    clear hrest
    by_cases hlt : k < N
    · have p1 : (k : Int) < (N : Int) := by omega
      obtain ⟨b1, o1, rfl, hbl, hc1⟩ := (hxc.below hbr) (by rw [HN.out]; omega)
      have p2 : (k : Int) ≤ (ca : Int) := by omega
      have p3 : ¬ ca = k := by omega
      have p4 : (k : Int) < (ca : Int) := by omega
      have HJo := hide (join_any (w := wr) (reads_drop (n := N - k) hc1 hbl (j := k) (cap := ca) (by rw [HN.out]; omega) (by rw [HN.out]; omega) (by omega) (by rw [HN.out])) (fun x hx => HU.out x (List.mem_of_mem_drop hx)) (by rw [List.length_drop, HN.out]; omega) (by rw [List.length_drop, HN.out]; omega))
      rw [HT.out] at HJo
      clear hc1
      cases rest with
      | nil =>
        have hz := uJn_zero HJ.out.bad
        rw [List.flatMap_nil, List.nil_append, hz] at HJo
        have hRf : R = false := by
          rw [← HR.out]
          cases t with
          | nil => have := congrArg List.length HT.out; rw [List.length_drop, HN.out] at this; simp at this; omega
          | cons a b => rfl
        subst hRf
        clear hz
        go_wp2_with (go_at_call 85; refine HJo.out.mono ?_; rintro e w' ⟨rfl, rfl⟩)
        go_ret2
        exact ⟨rfl, hbr⟩
      | cons p rest =>
        have hpts : uPt p = true := HJ.out.pts p (by rw [hp.out]; simp)
        have hj := uJn_uU (rest.flatMap uU ++ t) hpts
        rw [List.flatMap_cons, List.append_assoc, hj] at HJo
        have hposu := uU_pos p
        have hu2 := uU_len' p
        have hkn : k + (uU p).length ≤ N := by
          have := congrArg List.length HT.out
          rw [List.length_drop, HN.out, List.flatMap_cons, List.append_assoc, List.length_append] at this
          omega
        have HKN := hide (show ((ds ++ [p]).flatMap uU).length = k + (uU p).length by rw [List.flatMap_append, List.length_append, hkd.out]; simp)
        have hfl := uFlat_le ds
        have hdl : ds.length ≤ ps.length := by rw [hp.out, List.length_append]; omega
        have HW := hide (fun hb => uwrite_any (w := wr) hB.out hpts (by omega) hb)
        obtain ⟨n, hn⟩ : ∃ n, (uU p).length = n := ⟨_, rfl⟩
        rw [hn] at HJo hposu hkn HKN
        have q1 : ((n : Int) == 0) = false := beq_eq_false_iff_ne.2 (by omega)
        clear hj hn hu2
        go_wp2_with (first | (go_at_call 85; refine HJo.out.mono ?_; rintro e w' ⟨rfl, rfl⟩) | (go_at_call 31; refine (HW.out hzr).mono ?_; rintro e w2 ⟨rfl, hb2, k2⟩; have HB2 := hide hb2; clear hb2))
        go_roundg (N - (k + n))
        case measure => omega
        case rel => exact ⟨k + n, ds ++ [p], rest, by omega, by simp, rfl, hide (by rw [hp.out]; simp), HKN, hide (by rw [uFlat_snoc]; exact HB2.out), hbr.trans k2⟩
    · have p1 : ¬ (k : Int) < (N : Int) := by omega
      have hnil : rest.flatMap uU ++ t = [] := by
        rw [← HT.out, List.drop_eq_nil_iff, HN.out]; omega
      have ht : t = [] := (List.append_eq_nil_iff.1 hnil).2
      have hrs : rest = [] := by
        cases rest with
        | nil => rfl
        | cons p r =>
          have := (List.append_eq_nil_iff.1 hnil).1
          rw [List.flatMap_cons] at this
          have h2 := congrArg List.length this
          rw [List.length_append, List.length_nil] at h2
          have := uU_pos p
          omega
      have hRt : R = true := by rw [← HR.out, ht]; rfl
      have hps : ps = ds := by rw [hp.out, hrs, List.append_nil]
      subst hRt
      have HST := hide (Bd.string hB.out hzr)
      rw [← hps] at HST
      clear hnil ht hrs hps
      go_wp2_with (go_at_call 32; refine HST.out.mono ?_; rintro e w2 ⟨rfl, k2⟩)
      go_ret2
      exact ⟨rfl, hbr.trans k2⟩

end Go.Proofs.YtddamkdkaijfjaaGreatDoor
