/- bytes as texts: order, one more, noughts ahead -/
import Derived.Test.YtkffaakjbbfiaaaDoorQLess
namespace Go.Proofs.YtkffaakjbbfiaaaDoor
open Go.RowKit

theorem nb_ok_cons {x : Int} {xs : List Int} : Nb.Ok (x :: xs) ↔ (0 ≤ x ∧ x < 256) ∧ Nb.Ok xs := by
  constructor
  · intro h
    exact ⟨by simpa [Nt.lb] using h 0, fun i => by simpa [Nt.lb] using h (i + 1)⟩
  · rintro ⟨h1, h2⟩ i
    cases i with
    | zero => simpa [Nt.lb] using h1
    | succ i => simpa [Nt.lb] using h2 i
theorem nb_ok_reverse {xs : List Int} (h : Nb.Ok xs) : Nb.Ok xs.reverse := by
  intro i
  by_cases hi : i < xs.length
  · rw [lb_reverse hi]; exact h _
  · rw [Nt.lb_out (by rw [List.length_reverse]; omega)]; omega
theorem nb_val_cons (x : Int) (xs : List Int) : Nb.val (x :: xs) = x + 256 * Nb.val xs := by
  have key : ∀ n, Nb.vt (x :: xs) (n + 1) = x + 256 * Nb.vt xs n := by
    intro n
    induction n with
    | zero => simp [Nb.vt, Nt.lb, Nb.pw]
    | succ n ih =>
      rw [Nb.vt_succ, ih, Nb.vt_succ, Nb.pw_succ]
      have e : Nt.lb (x :: xs) (n + 1) = Nt.lb xs n := by simp [Nt.lb]
      rw [e]
      grind
  show Nb.vt (x :: xs) (xs.length + 1) = _
  rw [key]; rfl
theorem u8_lt {x y : Int} (hx : 0 ≤ x ∧ x < 256) (hy : 0 ≤ y ∧ y < 256) : (UInt8.ofNat x.toNat < UInt8.ofNat y.toNat ↔ x < y) ∧ (UInt8.ofNat x.toNat = UInt8.ofNat y.toNat ↔ x = y) := by
  constructor
  · rw [UInt8.lt_iff_toNat_lt, UInt8.toNat_ofNat', UInt8.toNat_ofNat']; omega
  · rw [← UInt8.toNat_inj, UInt8.toNat_ofNat', UInt8.toNat_ofNat']; omega
theorem bytesLess_nums : ∀ {xs ys : List Int}, xs.length = ys.length → Nb.Ok xs → Nb.Ok ys → Op.bytesLess (xs.map fun n => UInt8.ofNat n.toNat) (ys.map fun n => UInt8.ofNat n.toNat) = decide (Nb.val xs.reverse < Nb.val ys.reverse)
  | [], [], _, _, _ => by simp [Op.bytesLess]
  | x :: xs, [], h, _, _ => by simp at h
  | [], y :: ys, h, _, _ => by simp at h
  | x :: xs, y :: ys, h, hx, hy => by
    have hl : xs.length = ys.length := by simpa using h
    obtain ⟨x1, x2⟩ := nb_ok_cons.1 hx
    obtain ⟨y1, y2⟩ := nb_ok_cons.1 hy
    obtain ⟨u1, u2⟩ := u8_lt x1 y1
    have ih := bytesLess_nums hl x2 y2
    simp only [List.map_cons, Op.bytesLess, List.reverse_cons, Nb.val_snoc, List.length_reverse]
    rw [ih, hl]
    have a := Nb.val_lt (nb_ok_reverse x2)
    have a0 := Nb.val_nonneg (nb_ok_reverse x2)
    have b := Nb.val_lt (nb_ok_reverse y2)
    have b0 := Nb.val_nonneg (nb_ok_reverse y2)
    rw [List.length_reverse] at a b
    rw [hl] at a
    have hP := Nb.pw_pos ys.length
    generalize Nb.pw ys.length = P at *
    generalize Nb.val xs.reverse = A at *
    generalize Nb.val ys.reverse = B at *
    rcases Int.lt_trichotomy x y with c | c | c
    · have h1 : (x + 1) * P ≤ y * P := Int.mul_le_mul_of_nonneg_right (by omega) (by omega)
      rw [Int.add_mul] at h1
      rw [decide_eq_true (show A + x * P < B + y * P by omega)]
      simp [u1.2 c]
    · subst c
      have : (A + x * P < B + x * P) ↔ A < B := by omega
      simp [this]
    · have h1 : (y + 1) * P ≤ x * P := Int.mul_le_mul_of_nonneg_right (by omega) (by omega)
      rw [Int.add_mul] at h1
      rw [decide_eq_false (show ¬ A + x * P < B + y * P by omega)]
      have n1 : ¬ (UInt8.ofNat x.toNat < UInt8.ofNat y.toNat) := fun h => by have := u1.1 h; omega
      have n2 : ¬ (UInt8.ofNat x.toNat = UInt8.ofNat y.toNat) := fun h => by have := u2.1 h; omega
      simp [n1, n2]

theorem bstr_one {n : Int} {s t : ByteArray} (hs : Bstr n s) (ht : Bstr n t) : s = t := by
  obtain ⟨ds, d1, d2, rfl⟩ := hs
  obtain ⟨es, e1, e2, rfl⟩ := ht
  rw [Nb.canon_unique d1 e1 (by rw [d2, e2])]
theorem bstr_toList {ds : List Int} : (strOfNums ds.reverse).toList = ds.reverse.map fun n => UInt8.ofNat n.toNat := by rw [ByteArray.toList_eq, strOfNums_data]

theorem less_bstr {w : World} {A B : Int} {s t : ByteArray} (hs : Bstr A s) (ht : Bstr B t) :
    Calls Tryd.prog 16 #[.string s, .string t] w fun e w' => e = .returned (.int .i64 (sgn A B)) ∧ w' = w := by
  obtain ⟨ds, d1, d2, hds⟩ := hs
  obtain ⟨es, e1, e2, hes⟩ := ht
  have z1 : s.size = ds.length := by rw [hds, strOfNums_size, List.length_reverse]
  have z2 : t.size = es.length := by rw [hes, strOfNums_size, List.length_reverse]
  rcases Nat.lt_trichotomy ds.length es.length with h | h | h
  · have hlt := Nb.canon_lt d1.1 e1 h
    rw [d2, e2] at hlt
    rw [sgn_lt hlt]
    exact less_len (by omega)
  · refine (less_same (w := w) (s := s) (t := t) (by omega)).mono ?_
    rintro e w' ⟨rfl, rfl⟩
    refine ⟨?_, rfl⟩
    have hb : Op.bytesLess s.toList t.toList = decide (A < B) := by
      rw [hds, hes, bstr_toList, bstr_toList, bytesLess_nums (by rw [List.length_reverse, List.length_reverse, h]) (nb_ok_reverse d1.1) (nb_ok_reverse e1.1), List.reverse_reverse, List.reverse_reverse, d2, e2]
    rcases Int.lt_trichotomy A B with c | c | c
    · rw [hb, decide_eq_true c, sgn_lt c]; rfl
    · have hst : s = t := bstr_one ⟨ds, d1, d2, hds⟩ ⟨es, e1, by rw [e2, c], hes⟩
      subst hst
      rw [hb, decide_eq_false (by omega), sgn_eq c]
      simp
    · have hne : ¬ s.toList = t.toList := by
        intro e
        rw [ByteArray.toList_eq, ByteArray.toList_eq] at e
        have hst := Go.WideShapes.bytes_inj e
        rw [hds, hes] at hst
        have h1 : (strOfNums ds.reverse).toList = (strOfNums es.reverse).toList := by rw [hst]
        have h2 := bytesLess_nums (xs := es.reverse) (ys := ds.reverse) (by rw [List.length_reverse, List.length_reverse, h]) (nb_ok_reverse e1.1) (nb_ok_reverse d1.1)
        have h3 := bytesLess_nums (xs := ds.reverse) (ys := ds.reverse) rfl (nb_ok_reverse d1.1) (nb_ok_reverse d1.1)
        rw [bstr_toList, bstr_toList] at h1
        rw [← h1, h3, List.reverse_reverse, List.reverse_reverse, d2, e2, decide_eq_false (by omega), decide_eq_true c] at h2
        cases h2
      rw [hb, decide_eq_false (by omega), sgn_gt c]
      simp [hne]
  · have hlt := Nb.canon_lt e1.1 d1 h
    rw [d2, e2] at hlt
    rw [sgn_gt hlt]
    exact less_more (by omega)

/-- a byte more behind -/
theorem bstr_more {A x : Int} {s : ByteArray} (hs : Bstr A s) (hx : 0 ≤ x ∧ x < 256) (hn : ¬ (A = 0 ∧ x = 0)) : Bstr (A * 256 + x) (s ++ strOfNums [x]) := by
  obtain ⟨ds, d1, d2, rfl⟩ := hs
  refine ⟨x :: ds, ⟨nb_ok_cons.2 ⟨hx, d1.1⟩, fun _ => ?_⟩, by rw [nb_val_cons, d2]; omega, ?_⟩
  · by_cases h : ds = []
    · subst h
      have hA : A = 0 := by rw [← d2]; rfl
      have hx0 : x ≠ 0 := fun e => hn ⟨hA, e⟩
      simpa [Nt.lb] using hx0
    · have h1 := d1.2 h
      have hp := List.length_pos_iff.2 h
      have e : Nt.lb (x :: ds) ((x :: ds).length - 1) = Nt.lb ds (ds.length - 1) := by
        obtain ⟨m, hm⟩ : ∃ m, ds.length = m + 1 := ⟨ds.length - 1, by omega⟩
        simp [Nt.lb, hm]
      rw [e]; exact h1
  · apply Go.WideShapes.bytes_inj
    rw [strOfNums_data, List.reverse_cons, List.map_append]
    simp [strOfNums]
theorem bstr_zero : Bstr 0 ⟨#[]⟩ := ⟨[], Nb.canon_nil, rfl, rfl⟩
/-- the first byte is not 0 -/
theorem bstr_first {A : Int} {s : ByteArray} (hs : Bstr A s) (h : 0 < s.size) : (((s[0]'h).toNat : Nat) : Int) ≠ 0 := by
  obtain ⟨ds, d1, d2, rfl⟩ := hs
  have hp : 0 < ds.length := by rw [strOfNums_size, List.length_reverse] at h; exact h
  have h2 := d1.2 (List.length_pos_iff.1 hp)
  rw [strOfNums_at h (by rw [lb_reverse hp]; exact d1.1 _), lb_reverse hp, Nat.sub_zero]
  exact h2
/-- noughts ahead say nothing -/
theorem bstr_drop {ds : List Int} (hd : Nb.Canon ds) (z : Nat) : (strOfNums (List.replicate z 0) ++ strOfNums ds.reverse).data.toList.dropWhile (· == 0) = (strOfNums ds.reverse).data.toList := by
  have e : (strOfNums (List.replicate z 0) ++ strOfNums ds.reverse).data.toList = List.replicate z 0 ++ (strOfNums ds.reverse).data.toList := by
    simp [strOfNums]
  rw [e]
  have h1 : ∀ z : Nat, (List.replicate z (0 : UInt8) ++ (strOfNums ds.reverse).data.toList).dropWhile (· == 0) = (strOfNums ds.reverse).data.toList.dropWhile (· == 0) := by
    intro z
    induction z with
    | zero => simp
    | succ z _ => rw [List.replicate_succ, List.cons_append, List.dropWhile_cons]; simp
  rw [h1]
  by_cases h : ds = []
  · subst h; rfl
  · have hp := List.length_pos_iff.2 h
    have h0 : 0 < (strOfNums ds.reverse).size := by rw [strOfNums_size, List.length_reverse]; exact hp
    have hf := bstr_first ⟨ds, hd, rfl, rfl⟩ h0
    have hu := bytes_uncons h0
    have hne : ¬ (strOfNums ds.reverse)[0] = 0 := fun e => hf (by rw [e]; rfl)
    rw [hu, List.dropWhile_cons]
    simp [hne]

end Go.Proofs.YtkffaakjbbfiaaaDoor
