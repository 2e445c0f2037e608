/- QLs, TnWalk -/
import Derived.Test.YtllddhiflnfhaaaDoorQKit
import Derived.Test.YtllddhiflnfhaaaDoorQGm
import Derived.Test.YtllddhiflnfhaaaDoorQLives
namespace Go.Proofs.YtllddhiflnfhaaaDoor
open Go.RowKit

set_option maxRecDepth 20000 in
set_option maxHeartbeats 2000000 in
theorem less_len {w : World} {s t : ByteArray} (h : s.size < t.size) :
    Calls Tryd.prog 12 #[.string s, .string t] w fun e w' => e = .returned (.int .i64 (-1)) ∧ w' = w := by
  have q1 : (s.size : Int) < (t.size : Int) := by omega
  have q2 : ((s.size : Int) != (t.size : Int)) = true := by simp; omega
  go_enter Tryd.func12, Tryd.ntmps12
  go_wp2
  go_ret
  exact ⟨rfl, rfl⟩

set_option maxRecDepth 20000 in
set_option maxHeartbeats 2000000 in
theorem less_more {w : World} {s t : ByteArray} (h : t.size < s.size) :
    Calls Tryd.prog 12 #[.string s, .string t] w fun e w' => e = .returned (.int .i64 1) ∧ w' = w := by
  have q1 : ¬ (s.size : Int) < (t.size : Int) := by omega
  have q2 : ((s.size : Int) != (t.size : Int)) = true := by simp; omega
  have q3 : ((s.size : Int) == (t.size : Int)) = false := by simp; omega
  have q4 : (s.toList == t.toList) = false := by
    simp
    intro e
    rw [ByteArray.toList_eq, ByteArray.toList_eq] at e
    have e2 := congrArg List.length e
    rw [Array.length_toList, Array.length_toList] at e2
    have h1 : s.data.size = s.size := rfl
    have h2 : t.data.size = t.size := rfl
    omega
  go_enter Tryd.func12, Tryd.ntmps12
  go_wp2
  go_ret
  exact ⟨rfl, rfl⟩

set_option maxRecDepth 20000 in
set_option maxHeartbeats 2000000 in
theorem less_same {w : World} {s t : ByteArray} (h : s.size = t.size) :
    Calls Tryd.prog 12 #[.string s, .string t] w fun e w' => e = .returned (.int .i64 (if Op.bytesLess s.toList t.toList = true then -1 else if (s.toList == t.toList) = true then 0 else 1)) ∧ w' = w := by
  obtain ⟨n, hn⟩ : ∃ n, n = t.size := ⟨_, rfl⟩
  have q1 : s.size = n := by omega
  have q2 : t.size = n := by omega
  clear h hn
  cases hb : Op.bytesLess s.toList t.toList
  · cases he : (s.toList == t.toList)
    · go_enter Tryd.func12, Tryd.ntmps12
      go_wp2
      go_ret
      exact ⟨rfl, rfl⟩
    · go_enter Tryd.func12, Tryd.ntmps12
      go_wp2
      go_ret
      exact ⟨rfl, rfl⟩
  · go_enter Tryd.func12, Tryd.ntmps12
    go_wp2
    go_ret
    exact ⟨rfl, rfl⟩

end Go.Proofs.YtllddhiflnfhaaaDoor

namespace Go.Proofs.YtllddhiflnfhaaaDoor
open Go.RowKit
set_option linter.unusedVariables false

theorem byte_lt {x y : Int} (hx : 0 ≤ x ∧ x < 256) (hy : 0 ≤ y ∧ y < 256) : (UInt8.ofNat x.toNat < UInt8.ofNat y.toNat ↔ x < y) ∧ (UInt8.ofNat x.toNat = UInt8.ofNat y.toNat ↔ x = y) := by
  constructor
  · rw [UInt8.lt_iff_toNat_lt, UInt8.toNat_ofNat', UInt8.toNat_ofNat']; omega
  · rw [← UInt8.toNat_inj, UInt8.toNat_ofNat', UInt8.toNat_ofNat']; omega
theorem bytesLess_dg : ∀ {xs ys : List Int}, xs.length = ys.length → Dg xs → Dg ys → Op.bytesLess (xs.map fun n => UInt8.ofNat n.toNat) (ys.map fun n => UInt8.ofNat n.toNat) = decide (dg xs < dg ys)
  | [], [], _, _, _ => by simp [Op.bytesLess, dg]
  | x :: xs, [], h, _, _ => by simp at h
  | [], y :: ys, h, _, _ => by simp at h
  | x :: xs, y :: ys, h, hx, hy => by
    have hl : xs.length = ys.length := by simpa using h
    have x1 := hx x List.mem_cons_self
    have y1 := hy y List.mem_cons_self
    have x2 : Dg xs := fun z hz => hx z (List.mem_cons_of_mem _ hz)
    have y2 : Dg ys := fun z hz => hy z (List.mem_cons_of_mem _ hz)
    obtain ⟨u1, u2⟩ := byte_lt (x := x) (y := y) (by omega) (by omega)
    have ih := bytesLess_dg hl x2 y2
    have key : (dg (x :: xs) < dg (y :: ys)) ↔ ((x - 48) * tn ys.length + dg xs < (y - 48) * tn ys.length + dg ys) := by rw [dg, dg, hl]
    have hdec : decide (dg (x :: xs) < dg (y :: ys)) = decide ((x - 48) * tn ys.length + dg xs < (y - 48) * tn ys.length + dg ys) := decide_eq_decide.2 key
    rw [hdec]
    clear hdec
    simp only [List.map_cons, Op.bytesLess]
    rw [ih]
    clear key
    have a := dg_range x2
    have b := dg_range y2
    rw [hl] at a
    have hP := tn_pos ys.length
    generalize tn ys.length = P at *
    generalize dg xs = A at *
    generalize dg ys = B at *
    rcases Int.lt_trichotomy x y with c | c | c
    · have h1 : (x - 48 + 1) * P ≤ (y - 48) * P := Int.mul_le_mul_of_nonneg_right (by omega) (by omega)
      rw [Int.add_mul] at h1
      rw [decide_eq_true (show (x - 48) * P + A < (y - 48) * P + B by omega)]
      simp [u1.2 c]
    · subst c
      have : ((x - 48) * P + A < (x - 48) * P + B) ↔ A < B := by omega
      simp [this]
    · have h1 : (y - 48 + 1) * P ≤ (x - 48) * P := Int.mul_le_mul_of_nonneg_right (by omega) (by omega)
      rw [Int.add_mul] at h1
      rw [decide_eq_false (show ¬ (x - 48) * P + A < (y - 48) * P + B by omega)]
      have n1 : ¬ (UInt8.ofNat x.toNat < UInt8.ofNat y.toNat) := fun h => by have := u1.1 h; omega
      have n2 : ¬ (UInt8.ofNat x.toNat = UInt8.ofNat y.toNat) := fun h => by have := u2.1 h; omega
      simp [n1, n2]
theorem str_list (ds : List Int) : (strOfNums ds).toList = ds.map fun n => UInt8.ofNat n.toNat := by rw [ByteArray.toList_eq, strOfNums_data]
theorem Dstr.short {A B : Int} {xs ys : List Int} (hx : Dstr A xs) (hy : Dstr B ys) (h : xs.length < ys.length) : A < B := by
  obtain ⟨x1, x2, _, x4⟩ := hx
  obtain ⟨y1, y2, y3, y4⟩ := hy
  have h1 := dg_range x1
  have h2 : Nt.lb ys 0 ≠ 48 := by
    rcases y3 with c | c
    · exact c
    · have q : ys.length = 1 := by rw [c]; rfl
      omega
  have h3 := dg_lead' y1 y2 h2
  have h4 := tn_mono (a := xs.length) (b := ys.length - 1) (by omega)
  omega
theorem less_dstr {w : World} {A B : Int} {xs ys : List Int} {s t : ByteArray} (hx : Dstr A xs) (hy : Dstr B ys) (hs : s = strOfNums xs) (ht : t = strOfNums ys) :
    Calls Tryd.prog 12 #[.string s, .string t] w fun e w' => e = .returned (.int .i64 (sgn A B)) ∧ w' = w := by
  have z1 : s.size = xs.length := by rw [hs, strOfNums_size]
  have z2 : t.size = ys.length := by rw [ht, strOfNums_size]
  rcases Nat.lt_trichotomy xs.length ys.length with h | h | h
  · rw [sgn_lt (hx.short hy h)]
    exact less_len (by omega)
  · refine (less_same (w := w) (s := s) (t := t) (by omega)).mono ?_
    rintro e w' ⟨rfl, rfl⟩
    refine ⟨?_, rfl⟩
    have hb : Op.bytesLess s.toList t.toList = decide (A < B) := by
      rw [hs, ht, str_list, str_list, bytesLess_dg h hx.1 hy.1, hx.2.2.2, hy.2.2.2]
    rcases Int.lt_trichotomy A B with c | c | c
    · rw [hb, decide_eq_true c, sgn_lt c]; rfl
    · subst c
      have := hx.unique hy
      subst this
      have hst : s = t := by rw [hs, ht]
      subst hst
      rw [hb, decide_eq_false (by omega), sgn_eq rfl]
      simp
    · have hne : ¬ s.toList = t.toList := by
        intro e
        rw [hs, ht, str_list, str_list] at e
        have h2 := bytesLess_dg (xs := ys) (ys := xs) h.symm hy.1 hx.1
        have h3 := bytesLess_dg (xs := xs) (ys := xs) rfl hx.1 hx.1
        rw [← e, h3, hx.2.2.2, hy.2.2.2, decide_eq_false (by omega), decide_eq_true c] at h2
        cases h2
      rw [hb, decide_eq_false (by omega), sgn_gt c]
      simp [hne]
  · rw [sgn_gt (hy.short hx h)]
    exact less_more (by omega)
theorem Dstr.more {A x : Int} {ds : List Int} (h : Dstr A ds) (hA : A ≠ 0) (x0 : 0 ≤ x) (x9 : x ≤ 9) : Dstr (A * 10 + x) (ds ++ [48 + x]) := by
  obtain ⟨h1, h2, h3, h4⟩ := h
  refine ⟨h1.append (fun y hy => by simp at hy; omega), by simp, .inl ?_, by rw [dg_snoc, h4]; omega⟩
  rcases h3 with c | c
  · rw [lb_append_left h2]; exact c
  · exfalso
    rw [c, dg_one] at h4; omega
theorem Dstr.one {x : Int} (x0 : 0 ≤ x) (x9 : x ≤ 9) : Dstr x [48 + x] := by
  refine ⟨fun y hy => by simp at hy; omega, by simp, ?_, by rw [dg_one]; omega⟩
  by_cases h : x = 0
  · right; rw [h]; rfl
  · left; simp [Nt.lb]; omega
theorem Dstr.nmb {A : Int} {ds : List Int} (h : Dstr A ds) : Nmb ds := ⟨h.2.1, h.1, h.2.2.1⟩
theorem tens_read {w : World} {A : Int} {ds : List Int} {s : ByteArray} (h : Dstr A ds) (hs : s = strOfNums ds) (hl : ds.length ≤ 134217728) (hA : A < Nt.pw 262144) :
    Calls Tryd.prog 15 #[.string s] w fun e w' => ∃ v, e = .returned (.tuple #[v, .bool true]) ∧ Num w.heap.size w' v A 262144 ∧ Below w.heap.size w w' :=
  qread_any h.1.byt hs hl ⟨⟨fun _ => ⟨h.nmb, by rw [h.2.2.2]; exact hA⟩, fun _ => rfl⟩, by rw [if_pos rfl, h.2.2.2]⟩
theorem tens_none0 {w : World} {A : Int} {ds : List Int} {s : ByteArray} (h : Dstr A ds) (hs : s = strOfNums ds) (hl : ds.length ≤ 134217727) :
    Calls Tryd.prog 15 #[.string (⟨#[48]⟩ ++ s)] w fun e w' => ∃ v, e = .returned (.tuple #[v, .bool false]) ∧ Num w.heap.size w' v 0 262144 ∧ Below w.heap.size w w' := by
  refine qread_any (es := 48 :: ds) (fun y hy => ?_) ?_ (by simp; omega) ⟨⟨fun q => by simp at q, fun q => ?_⟩, by rw [if_neg (by decide)]⟩
  · rcases List.mem_cons.1 hy with c | c
    · omega
    · exact h.1.byt y c
  · rw [hs, show (⟨#[48]⟩ : ByteArray) = strOfNums [48] from rfl, txt_join]; rfl
  · exfalso
    rcases q.1.2.2 with c | c
    · simp [Nt.lb] at c
    · have : ds = [] := by simpa using c
      have := h.2.1
      simp_all
theorem row_1 (w : World) (x : Int) : Row .u8 5 (w.alloc (.cells #[.int .u8 x] 5)) w.heap.size [x] := by
  unfold Row
  rw [heap_alloc_new]
  rfl

set_option maxRecDepth 20000 in
set_option maxHeartbeats 16000000 in
theorem tens_walk {w : World} {va vb : Value} {A B d : Int} {ka kb : Nat} (h_a : Arg w va A ka) (h_b : Arg w vb B kb) (hd : 0 ≤ d ∧ d < 256) (l_a : ka ≤ 1048576) (l_b : kb ≤ 1048576) :
    Calls Tryd.prog 3 #[va, vb, .int .u8 d] w fun e w' => e = .returned (.bool true) ∧ Below w.heap.size w w' := by
  obtain ⟨ao, la, ca, rfl, h_a, hla⟩ : ∃ ao la ca, va = .slice ao la ca ∧ Arg w (.slice ao la ca) A la ∧ la ≤ 1048576 := by
    obtain ⟨xs, ⟨ao, ca, rfl, h1, h2, h3⟩, h4, h5, h6⟩ := h_a
    exact ⟨ao, xs.length, ca, rfl, ⟨xs, ⟨ao, ca, rfl, h1, h2, h3⟩, h4, h5, Nat.le_refl _⟩, by omega⟩
  have n_a := h_a.nonneg
  have hW : Below w.heap.size w w := Below.refl _ _
  obtain ⟨d0, d1⟩ := hd
  obtain ⟨x, hx⟩ : ∃ x, d % 10 = x := ⟨_, rfl⟩
  have x0 : 0 ≤ x := by omega
  have x9 : x ≤ 9 := by omega
  go_enter Tryd.func3, Tryd.ntmps3
  go_wp2_with fail
  with_reducible refine (twin_arg h_a (by omega)).mono ?_
  rintro e w1 ⟨v1, rfl, h_s, hB⟩
  replace hW := below_trans hW hB
  replace h_a := h_a.below hB
  replace h_b := h_b.below hB
  clear hB
  go_wp2_with fail
  with_reducible refine (digits_any h_s (by omega)).mono ?_
  rintro e w2 ⟨ds, rfl, hs, hs4, hB⟩
  replace hW := below_trans hW hB
  replace h_a := h_a.below hB
  replace h_b := h_b.below hB
  clear hB h_s
  obtain ⟨s, hse0⟩ : ∃ s, s = strOfNums ds := ⟨_, rfl⟩
  rw [← hse0]
  have HSE := hide hse0
  clear hse0
  go_wp2_with fail
  with_reducible refine (twin_arg h_b (by omega)).mono ?_
  rintro e w3 ⟨v3, rfl, h_t, hB⟩
  replace hW := below_trans hW hB
  replace h_a := h_a.below hB
  replace h_b := h_b.below hB
  clear hB
  go_wp2_with fail
  with_reducible refine (digits_any h_t (by omega)).mono ?_
  rintro e w4 ⟨es, rfl, ht, ht4, hB⟩
  replace hW := below_trans hW hB
  replace h_a := h_a.below hB
  replace h_b := h_b.below hB
  clear hB h_t
  obtain ⟨t, hte0⟩ : ∃ t, t = strOfNums es := ⟨_, rfl⟩
  rw [← hte0]
  have HT := hide (And.intro ht (And.intro hte0 ht4))
  clear hte0
  have hx2 : x % 4294967296 = x := by omega
  go_wp2_with fail
  with_reducible refine (mul_any (h_a.below (below_alloc _ _)) (arg_one w4 (x := 10) (by omega)) (by omega) (by omega)).mono ?_
  rintro e w5 ⟨v5, rfl, h_m, hB⟩
  have hB2 := below_trans (below_alloc w4 _) hB
  replace hW := below_trans hW hB2
  replace h_a := h_a.below hB2
  replace h_b := h_b.below hB2
  clear hB hB2
  go_wp2_with fail
  with_reducible refine (add_any (h_m.arg.below (below_alloc _ _)) (arg_one w5 (x := x) ⟨x0, by omega⟩) (by omega) (by omega)).mono ?_
  rintro e w6 ⟨v6, rfl, h_n, hB⟩
  have hB2 := below_trans (below_alloc w5 _) hB
  replace hW := below_trans hW hB2
  replace h_a := h_a.below hB2
  replace h_b := h_b.below hB2
  clear hB hB2 h_m
  go_wp2_with fail
  with_reducible refine (digits_any h_n.arg (by omega)).mono ?_
  rintro e w7 ⟨ms, rfl, hm, hm4, hB⟩
  replace hW := below_trans hW hB
  replace h_a := h_a.below hB
  replace h_b := h_b.below hB
  clear hB h_n
  obtain ⟨m, hme0⟩ : ∃ m, m = strOfNums ms := ⟨_, rfl⟩
  rw [← hme0]
  have HME := hide hme0
  clear hme0
  have hse := HSE.out
  have hme := HME.out
  have hcv := row_string (cap := 1) (row_1 w7 (48 + x))
  have l1 : ([48 + x] : List Int).length = 1 := rfl
  rw [l1] at hcv
  obtain ⟨u, hue⟩ : ∃ u, u = strOfNums [48 + x] := ⟨_, rfl⟩
  rw [← hue] at hcv
  have hu1 : u.size = 1 := by rw [hue, strOfNums_size]; rfl
  have hB2 := below_alloc w7 (.cells #[.int .u8 (48 + x)] 5)
  have hW8 := below_trans hW hB2
  have h_a8 := h_a.below hB2
  have h_b8 := h_b.below hB2
  have HS := hide (And.intro hs (And.intro hse hs4))
  have hsz : s.size = ds.length := by rw [hse, strOfNums_size]
  have hss : s.size ≤ 10200000 := by omega
  have k1 : ¬ 9223372036854775807 < s.size + u.size := by omega
  have xb : (48 + x) % 256 = 48 + x := by omega
  have xb2 : (48 + x) % 4294967296 = 48 + x := by omega
  have HMM := hide (And.intro hm (And.intro hme hue))
  clear hW h_a h_b hB2 l1 hm4 ht4 hme hue hm ht hse hs hs4
  by_cases hA : A = 0
  · have hds : ds = [48] := HS.out.1.unique (by rw [hA]; exact Dstr.one (x := 0) (by omega) (by omega))
    have hs48 : s = ⟨#[48]⟩ := by rw [HS.out.2.1, hds]; rfl
    have hmu : m = u := by
      rw [HMM.out.2.1, HMM.out.2.2]
      congr 1
      refine HMM.out.1.unique ?_
      rw [hA, Int.zero_mul, Int.zero_add]
      exact Dstr.one x0 x9
    have hlz := len_is h_a8 (by omega) (k := 0) (by rw [hA]; exact isLen_zero)
    have hs1 : s.size = 1 := by rw [hs48]; rfl
    have hex : (s ++ u).extract 1 2 = u := by
      rw [HS.out.2.1, HMM.out.2.2, txt_join, txt_cut, hds]
      rfl
    have hsu : (s ++ u).size = 2 := by simp [hs1, hu1]
    clear HMM hs48
    subst hmu
    clear hsz hds
    have HA0 := hide hA
    clear hA
    go_wp2_with fail
    with_reducible refine hlz.mono ?_
    clear hlz
    rintro e w8 ⟨rfl, rfl⟩
    go_wp2_with fail
    with_reducible refine (less_dstr HS.out.1 HT.out.1 HS.out.2.1 HT.out.2.1).mono ?_
    rintro e w9 ⟨rfl, rfl⟩
    go_wp2_with fail
    with_reducible refine (cmp_any h_a8 h_b8 (by omega) (by omega)).mono ?_
    rintro e w10 ⟨rfl, hB⟩
    replace hW8 := below_trans hW8 hB
    replace h_a8 := h_a8.below hB
    clear hB h_b8
    by_cases hbig : 262144 < la
    · have hbig1 : (262144 : Int) < (la : Int) := by omega
      go_wp2_with fail
      with_reducible refine qlives_any.mono ?_
      rintro e w11 ⟨rfl, hB⟩
      replace hW8 := below_trans hW8 hB
      clear hB
      go_wp2
      go_ret
      exact ⟨rfl, hW8⟩
    · have hbig1 : decide ((262144 : Int) < (la : Int)) = false := decide_eq_false (by omega)
      have hAp := hide (show A < Nt.pw 262144 from Int.lt_of_lt_of_le h_a8.lt (Nt.pw_mono (by omega)))
      have hla2 := hide hbig
      clear hbig
      go_wp2_with fail
      with_reducible refine (tens_read HS.out.1 HS.out.2.1 (by have := HS.out.2.2; omega) hAp.out).mono ?_
      rintro e w12 ⟨vn, rfl, h_n, hB⟩
      replace hW8 := below_trans hW8 hB
      replace h_a8 := h_a8.below hB
      have HNN := hide h_n
      obtain ⟨_, ⟨na, rfl, -⟩, -⟩ := h_n
      clear hB hbig1
      have k2 : ¬ 9223372036854775807 < (⟨#[48]⟩ : ByteArray).size + s.size := by rw [show (⟨#[48]⟩ : ByteArray).size = 1 from rfl]; omega
      go_wp2_with fail
      with_reducible refine (tens_none0 HS.out.1 HS.out.2.1 (by have := HS.out.2.2; omega)).mono ?_
      rintro e w13 ⟨vm, rfl, h_m, hB⟩
      replace hW8 := below_trans hW8 hB
      replace h_a8 := h_a8.below hB
      replace HNN := hide (HNN.out.below hB)
      have s3 := sgn_self A
      obtain ⟨_, ⟨mo, rfl, -⟩, -⟩ := h_m
      clear hB k2
      go_wp2_with fail
      with_reducible refine (cmp_any HNN.out.arg h_a8 (by omega) (by omega)).mono ?_
      rintro e w14 ⟨rfl, hB⟩
      replace hW8 := below_trans hW8 hB
      replace HNN := hide (HNN.out.below hB)
      clear hB
      go_wp2_with fail
      with_reducible refine (tight_num HNN.out).mono ?_
      rintro e w15 ⟨rfl, rfl⟩
      go_wp2_with fail
      with_reducible refine qlives_any.mono ?_
      rintro e w16 ⟨rfl, hB⟩
      replace hW8 := below_trans hW8 hB
      clear hB
      go_wp2
      go_ret
      exact ⟨rfl, hW8⟩
  · have hlp := len_any h_a8 (by omega)
    go_wp2_with fail
    with_reducible refine hlp.mono ?_
    clear hlp
    rintro e w8 ⟨k9, rfl, hk9, _, rfl⟩
    have p_k9 := isLen_pos hk9 (by have := h_a8.nonneg; omega)
    have r_k9 : ((k9 : Int) == 0) = false := by simp; omega
    clear hk9
    have hmu : m = s ++ u := by
      rw [HMM.out.2.1, HMM.out.2.2, HS.out.2.1, txt_join]
      congr 1
      exact HMM.out.1.unique (HS.out.1.more hA x0 x9)
    subst hmu
    have hsp : 0 < s.size := by have := HS.out.1.2.1; omega
    have f0 : ((s.size : Int) == 0) = false := beq_eq_false_iff_ne.2 (by omega)
    by_cases hps : 1 < s.size
    · have f2 : (1 : Int) < (s.size : Int) := by omega
      have hf : (((s[0]'hsp).toNat : Nat) : Int) = Nt.lb ds 0 := by
        have := HS.out.2.1
        subst this
        exact txt_at hsp HS.out.1.1.byt
      have hf2 : Nt.lb ds 0 ≠ 48 := by
        rcases HS.out.1.2.2.1 with c | c
        · exact c
        · rw [hsz, c] at hps; simp at hps
      have f1 : ((((s[0]'hsp).toNat : Nat) : Int) == 48) = false := by rw [hf]; simpa using hf2
      clear hf hf2 hsz HMM
      go_wp2_with fail
      with_reducible refine (less_dstr HS.out.1 HT.out.1 HS.out.2.1 HT.out.2.1).mono ?_
      rintro e w9 ⟨rfl, rfl⟩
      go_wp2_with fail
      with_reducible refine (cmp_any h_a8 h_b8 (by omega) (by omega)).mono ?_
      rintro e w10 ⟨rfl, hB⟩
      replace hW8 := below_trans hW8 hB
      replace h_a8 := h_a8.below hB
      clear hB h_b8
      by_cases hbig : 262144 < la
      · have hbig1 : (262144 : Int) < (la : Int) := by omega
        go_wp2_with fail
        with_reducible refine qlives_any.mono ?_
        rintro e w11 ⟨rfl, hB⟩
        replace hW8 := below_trans hW8 hB
        clear hB
        go_wp2
        go_ret
        exact ⟨rfl, hW8⟩
      · have hbig1 : decide ((262144 : Int) < (la : Int)) = false := decide_eq_false (by omega)
        have hAp := hide (show A < Nt.pw 262144 from Int.lt_of_lt_of_le h_a8.lt (Nt.pw_mono (by omega)))
        have hla2 := hide hbig
        clear hbig
        go_wp2_with fail
        with_reducible refine (tens_read HS.out.1 HS.out.2.1 (by have := HS.out.2.2; omega) hAp.out).mono ?_
        rintro e w12 ⟨vn, rfl, h_n, hB⟩
        replace hW8 := below_trans hW8 hB
        replace h_a8 := h_a8.below hB
        have HNN := hide h_n
        obtain ⟨_, ⟨na, rfl, -⟩, -⟩ := h_n
        clear hB hbig1
        have k2 : ¬ 9223372036854775807 < (⟨#[48]⟩ : ByteArray).size + s.size := by rw [show (⟨#[48]⟩ : ByteArray).size = 1 from rfl]; omega
        go_wp2_with fail
        with_reducible refine (tens_none0 HS.out.1 HS.out.2.1 (by have := HS.out.2.2; omega)).mono ?_
        rintro e w13 ⟨vm, rfl, h_m, hB⟩
        replace hW8 := below_trans hW8 hB
        replace h_a8 := h_a8.below hB
        replace HNN := hide (HNN.out.below hB)
        have s3 := sgn_self A
        obtain ⟨_, ⟨mo, rfl, -⟩, -⟩ := h_m
        clear hB k2
        go_wp2_with fail
        with_reducible refine (cmp_any HNN.out.arg h_a8 (by omega) (by omega)).mono ?_
        rintro e w14 ⟨rfl, hB⟩
        replace hW8 := below_trans hW8 hB
        replace HNN := hide (HNN.out.below hB)
        clear hB
        go_wp2_with fail
        with_reducible refine (tight_num HNN.out).mono ?_
        rintro e w15 ⟨rfl, rfl⟩
        go_wp2_with fail
        with_reducible refine qlives_any.mono ?_
        rintro e w16 ⟨rfl, hB⟩
        replace hW8 := below_trans hW8 hB
        clear hB
        go_wp2
        go_ret
        exact ⟨rfl, hW8⟩
    · have f2 : ¬ (1 : Int) < (s.size : Int) := by omega
      clear hsz HMM
      go_wp2_with fail
      with_reducible refine (less_dstr HS.out.1 HT.out.1 HS.out.2.1 HT.out.2.1).mono ?_
      rintro e w9 ⟨rfl, rfl⟩
      go_wp2_with fail
      with_reducible refine (cmp_any h_a8 h_b8 (by omega) (by omega)).mono ?_
      rintro e w10 ⟨rfl, hB⟩
      replace hW8 := below_trans hW8 hB
      replace h_a8 := h_a8.below hB
      clear hB h_b8
      by_cases hbig : 262144 < la
      · have hbig1 : (262144 : Int) < (la : Int) := by omega
        go_wp2_with fail
        with_reducible refine qlives_any.mono ?_
        rintro e w11 ⟨rfl, hB⟩
        replace hW8 := below_trans hW8 hB
        clear hB
        go_wp2
        go_ret
        exact ⟨rfl, hW8⟩
      · have hbig1 : decide ((262144 : Int) < (la : Int)) = false := decide_eq_false (by omega)
        have hAp := hide (show A < Nt.pw 262144 from Int.lt_of_lt_of_le h_a8.lt (Nt.pw_mono (by omega)))
        have hla2 := hide hbig
        clear hbig
        go_wp2_with fail
        with_reducible refine (tens_read HS.out.1 HS.out.2.1 (by have := HS.out.2.2; omega) hAp.out).mono ?_
        rintro e w12 ⟨vn, rfl, h_n, hB⟩
        replace hW8 := below_trans hW8 hB
        replace h_a8 := h_a8.below hB
        have HNN := hide h_n
        obtain ⟨_, ⟨na, rfl, -⟩, -⟩ := h_n
        clear hB hbig1
        have k2 : ¬ 9223372036854775807 < (⟨#[48]⟩ : ByteArray).size + s.size := by rw [show (⟨#[48]⟩ : ByteArray).size = 1 from rfl]; omega
        go_wp2_with fail
        with_reducible refine (tens_none0 HS.out.1 HS.out.2.1 (by have := HS.out.2.2; omega)).mono ?_
        rintro e w13 ⟨vm, rfl, h_m, hB⟩
        replace hW8 := below_trans hW8 hB
        replace h_a8 := h_a8.below hB
        replace HNN := hide (HNN.out.below hB)
        have s3 := sgn_self A
        obtain ⟨_, ⟨mo, rfl, -⟩, -⟩ := h_m
        clear hB k2
        go_wp2_with fail
        with_reducible refine (cmp_any HNN.out.arg h_a8 (by omega) (by omega)).mono ?_
        rintro e w14 ⟨rfl, hB⟩
        replace hW8 := below_trans hW8 hB
        replace HNN := hide (HNN.out.below hB)
        clear hB
        go_wp2_with fail
        with_reducible refine (tight_num HNN.out).mono ?_
        rintro e w15 ⟨rfl, rfl⟩
        go_wp2_with fail
        with_reducible refine qlives_any.mono ?_
        rintro e w16 ⟨rfl, hB⟩
        replace hW8 := below_trans hW8 hB
        clear hB
        go_wp2
        go_ret
        exact ⟨rfl, hW8⟩

theorem tens_wf {w : World} {va vb : Value} {A B d : Int} {ka kb : Nat} (h_a : Arg w va A ka) (h_b : Arg w vb B kb) (hd : (Lit.int .u8 d).wf = true) (l_a : ka ≤ 1048576) (l_b : kb ≤ 1048576) :
    Calls Tryd.prog 3 #[va, vb, .int .u8 d] w fun e w' => e = .returned (.bool true) ∧ Below w.heap.size w w' := by
  have h1 : 0 ≤ d ∧ d ≤ 255 := by simpa [Lit.wf, IntKind.min, IntKind.max, IntKind.signed, IntKind.bits] using hd
  exact tens_walk h_a h_b ⟨h1.1, by omega⟩ l_a l_b

end Go.Proofs.YtllddhiflnfhaaaDoor
