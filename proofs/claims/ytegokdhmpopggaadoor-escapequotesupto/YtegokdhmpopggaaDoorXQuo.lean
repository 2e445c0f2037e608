/- escape: writeByte, Quote -/
import Derived.Test.YtegokdhmpopggaaDoorXLet
import Derived.Test.YtegokdhmpopggaaDoorUAll
import Derived.Test.YtegokdhmpopggaaDoorUText
import Derived.Lib.AppendStr
import Derived.Laws.BitsAllLaws
namespace Go.Proofs.YtegokdhmpopggaaDoor
open Go.RowKit
set_option linter.unusedVariables false

theorem qstrCells {xs : List Int} : Lib.strCells (strOfNums xs) = Lib.byteCells (byE xs) := by
  simp [Lib.strCells, strOfNums, byE, Lib.byteCells]

set_option maxHeartbeats 2000000 in
set_option maxRecDepth 100000 in
theorem Bd.str {B b : Nat} {es xs : List Int} {w : World} (h : Bd B b es w) (hl : es.length + xs.length ≤ 140737488355328) (hBw : B ≤ w.heap.size) :
    Calls Tryd.prog 37 #[.pointer (some ⟨b, 0, none⟩), .string (strOfNums xs)] w fun e w' => e = .returned (.tuple #[.int .i64 xs.length, .nilIface]) ∧ Bd B b (es ++ xs) w' ∧ Below B w w' := by
  obtain ⟨i0, hi, hz0, hz1, hz2⟩ := info_parts binf
  have hsz : (strOfNums xs).size = xs.length := strOfNums_size xs
  have hlen : (Lib.byteCells (byE es)).length + (strOfNums xs).size ≤ 140737488355328 := by rw [Lib.byteCells_length, byE_len, hsz]; exact hl
  have HE := hide (show Lib.byteCells (byE (es ++ xs)) = Lib.byteCells (byE es) ++ Lib.strCells (strOfNums xs) by rw [byE_app, Lib.byteCells_append, qstrCells])
  have HC := hide (bchk h)
  rw [← hsz]
  unfold Bd
  rw [HE.out]
  clear h hl hsz HE
  obtain ⟨bs, hbs⟩ : ∃ bs, Lib.byteCells (byE es) = bs := ⟨_, rfl⟩
  obtain ⟨x, hx⟩ : ∃ x, strOfNums xs = x := ⟨_, rfl⟩
  rw [hbs] at hlen HC
  rw [hx] at hlen
  rw [hbs, hx]
  clear hbs hx
  go_enter Tryd.func37, Tryd.ntmps37
  go_wp2_with fail
  refine HC.out.mono ?_
  rintro e w1 ⟨rfl, h1, hb1⟩
  obtain ⟨hB, v, hbk, hown, hne⟩ := h1
  have d2 : w1.cell? ⟨b, 0, none⟩ = some (.pointer (some ⟨b, 0, none⟩)) := by rw [Lib.cell_of_heap hbk]; rfl
  have d3 : w1.cell? ⟨b, 1, none⟩ = some v := by rw [Lib.cell_of_heap hbk]; rfl
  go_wp2_with (at_builtin; refine Lib.wpList_append_own_string _ rfl _ _ 48 9 rfl B 5 i0 Tryd.underlying48 Tryd.underlying9 hi hz0 hz1 hz2 _ _ _ rfl hown x rfl ?c3 ?c4 ?c5 ?_)
  case c3 => unfold maxLen; omega
  case c4 => omega
  case c5 => have := hb1.size; omega
  intro v' w2 hown' hgrow _
  have hlt : b < w1.heap.size := (Array.getElem?_eq_some_iff.1 hbk).1
  have hb2 : w2.heap[b]? = some (.cells #[.pointer (some ⟨b, 0, none⟩), v] 50 (0, 0)) := by
    rw [hgrow.block b hlt (fun e => hne e.symm)]
    exact hbk
  have e2 : w2.cell? ⟨b, 0, none⟩ = some (.pointer (some ⟨b, 0, none⟩)) := by rw [Lib.cell_of_heap hb2]; rfl
  have e3 : w2.cell? ⟨b, 1, none⟩ = some v := by rw [Lib.cell_of_heap hb2]; rfl
  have f3 : w2.frozen? ⟨b, 1, none⟩ = false := Lib.frozen_of_heap hb2 1
  obtain ⟨ao, n', cap, rfl⟩ : ∃ ao n' cap, v' = .slice ao n' cap := by
    rcases hown'.2 with ⟨hv, _⟩ | ⟨g, cap, cur, hv, _⟩
    · exact ⟨_, _, _, hv⟩
    · exact ⟨_, _, _, hv⟩
  go_wp2
  go_ret2
  refine ⟨rfl, Or.inr ?_, ?_⟩
  · exact Lib.BuilderAt.put (T := 50) (e := 5) hB hb2 (bs' := bs ++ Lib.strCells x) (by simpa [Lib.strCells_length] using hown') (by decide)
  · exact (hb1.grown hgrow (by have := hb1.size; omega) (fun k hk => (hown.lt k hk).1)).setCell (p := ⟨b, 1, none⟩) hB _

theorem hexI (d : Nat) (h : d < 16) (W : World) : (Instr.index 9 (.string ⟨#[48, 49, 50, 51, 52, 53, 54, 55, 56, 57, 97, 98, 99, 100, 101, 102]⟩) (.int .u8 (d : Int))).run Tryd.prog W = .ok (.int .u8 (xHex (d : Int))) W := by
  rcases (by omega : d = 0 ∨ d = 1 ∨ d = 2 ∨ d = 3 ∨ d = 4 ∨ d = 5 ∨ d = 6 ∨ d = 7 ∨ d = 8 ∨ d = 9 ∨ d = 10 ∨ d = 11 ∨ d = 12 ∨ d = 13 ∨ d = 14 ∨ d = 15) with rfl | rfl | rfl | rfl | rfl | rfl | rfl | rfl | rfl | rfl | rfl | rfl | rfl | rfl | rfl | rfl <;> kernel_rfl
theorem qsp_new3 (w : World) (f l f2 l2 f3 l3 : Int) : SpAt (w.alloc (.cells #[.int .u8 f, .int .u8 l, .int .u8 f2, .int .u8 l2, .int .u8 f3, .int .u8 l3] 74)) (.slice (some ⟨w.heap.size, 0, none⟩) 3 3) [(f, l), (f2, l2), (f3, l3)] := by
  refine ⟨w.heap.size, rfl, by simp, fun i q hq => ?_⟩
  match i, hq with
  | 0, hq => simp at hq; subst hq; constructor <;> exact (Lib.cell_of_heap (heap_alloc_new w _) _).trans rfl
  | 1, hq => simp at hq; subst hq; constructor <;> exact (Lib.cell_of_heap (heap_alloc_new w _) _).trans rfl
  | 2, hq => simp at hq; subst hq; constructor <;> exact (Lib.cell_of_heap (heap_alloc_new w _) _).trans rfl
theorem xHex_rng {d : Int} (h0 : 0 ≤ d) (h1 : d < 16) : 0 ≤ xHex d ∧ xHex d < 256 := by unfold xHex; split <;> omega
theorem xSay_rng {c : Int} (h : xSay c ≠ -1) : 0 ≤ xSay c ∧ xSay c < 256 := by
  unfold xSay at h ⊢
  split; simp
  split; simp
  split; simp
  split; simp
  split; simp
  split; simp
  split; simp
  split; simp
  simp_all
theorem xEsc_say {c : Int} (h : (0 ≤ c ∧ c ≤ 31) ∨ c = 34 ∨ c = 92) (h2 : xSay c ≠ -1) : xEsc c = [92, xSay c] := by
  unfold xSay at h2 ⊢
  by_cases a : c = 34; subst a; decide
  by_cases b : c = 92; subst b; decide
  by_cases d : c = 8; subst d; decide
  by_cases e : c = 12; subst e; decide
  by_cases f : c = 10; subst f; decide
  by_cases g : c = 13; subst g; decide
  by_cases i : c = 9; subst i; decide
  exfalso; apply h2
  rw [if_neg a, if_neg b, if_neg (by omega), if_neg d, if_neg e, if_neg f, if_neg g, if_neg i]
theorem xEsc_hex {c : Int} (h : (0 ≤ c ∧ c ≤ 31) ∨ c = 34 ∨ c = 92) (h2 : xSay c = -1) : c < 32 ∧ xEsc c = [92, 117, 48, 48, xHex (c / 16), xHex (c % 16)] := by
  have a : c ≠ 34 := fun e => by subst e; revert h2; decide
  have b : c ≠ 92 := fun e => by subst e; revert h2; decide
  have d : c ≠ 8 := fun e => by subst e; revert h2; decide
  have e : c ≠ 12 := fun e => by subst e; revert h2; decide
  have f : c ≠ 10 := fun e => by subst e; revert h2; decide
  have g : c ≠ 13 := fun e => by subst e; revert h2; decide
  have i : c ≠ 9 := fun e => by subst e; revert h2; decide
  refine ⟨by omega, ?_⟩
  unfold xEsc
  rw [if_neg (by omega), if_neg d, if_neg i, if_neg f, if_neg e, if_neg g, if_pos (by omega)]

/-- a builder in a world that has come from w0 -/
def BK (B b : Nat) (es : List Int) (w0 w : World) : Prop := Bd B b es w ∧ B ≤ w.heap.size ∧ Below B w0 w
theorem BK.on {B b : Nat} {es : List Int} {w0 w w' : World} (h : BK B b es w0 w) (hb : Below w.heap.size w w') : BK B b es w0 w' := ⟨h.1.below hb, Nat.le_trans h.2.1 hb.size, h.2.2.trans (hb.mono h.2.1)⟩
theorem bk_byte {B b : Nat} {es : List Int} {w0 w : World} {c : Int} (h : BK B b es w0 w) (c0 : 0 ≤ c) (c1 : c < 256) (hl : es.length + 1 ≤ 140737488355328) :
    Calls Tryd.prog 21 #[.pointer (some ⟨b, 0, none⟩), .int .u8 c] w fun e w' => e = .returned .nilIface ∧ BK B b (es ++ [c]) w0 w' :=
  (h.1.byte c0 c1 hl h.2.1).mono fun e w' ⟨h1, h2, h3⟩ => ⟨h1, h2, Nat.le_trans h.2.1 h3.size, h.2.2.trans h3⟩

set_option maxHeartbeats 4000000 in
set_option maxRecDepth 100000 in
theorem writeByte_any {B b : Nat} {es : List Int} {w0 w : World} {c : Int} (h : BK B b es w0 w) (ht : Tab w0) (hG : 12 < B) (c0 : 0 ≤ c) (c1 : c < 256) (hl : es.length + 6 ≤ 140737488355328) :
    Calls Tryd.prog 22 #[.pointer (some ⟨b, 0, none⟩), .int .u8 c] w fun e w' => e = .returned (.tuple #[]) ∧ BK B b (es ++ xEsc c) w0 w' := by
  have H := hide h
  have HT := hide ht
  have HI := hide (fun W => in_any (c := c) (qsp_new3 W 0 31 34 34 92 92) (by simp))
  clear h ht
  cases hsp : xSp c [(0, 31), (34, 34), (92, 92)] with
  | false =>
    have hn : ¬ ((0 ≤ c ∧ c ≤ 31) ∨ (34 ≤ c ∧ c ≤ 34) ∨ (92 ≤ c ∧ c ≤ 92)) := by
      have : ¬ xSp c [(0, 31), (34, 34), (92, 92)] = true := by rw [hsp]; simp
      unfold xSp at this; simpa using this
    rw [hsp] at HI
    have HE := hide (xEsc_self (c := c) (by omega) (by omega) (by omega))
    clear hsp hn
    go_enter Tryd.func22, Tryd.ntmps22
    go_wp2_with (first
      | (go_at_call 35; refine only_any.mono ?_; rintro e w' ⟨rfl, hb2⟩; replace H := hide (H.out.on hb2); clear hb2)
      | (go_at_call 34; refine (HI.out _).mono ?_; rintro e w' ⟨rfl, hb2⟩; replace H := hide ((H.out.on ((Below.refl _ _).alloc (Nat.le_refl _) _)).on hb2); clear hb2)
      | (go_at_call 21; refine (bk_byte H.out c0 c1 (by omega)).mono ?_; rintro e w' ⟨rfl, h2⟩; replace H := hide h2; clear h2))
    refine bodyPost_ret (results_none rfl _ _ _) rfl ⟨rfl, by rw [HE.out]; exact H.out⟩
  | true =>
    have hn : (0 ≤ c ∧ c ≤ 31) ∨ c = 34 ∨ c = 92 := by
      unfold xSp at hsp; simp at hsp; omega
    rw [hsp] at HI
    clear hsp
    by_cases hv : xSay c = -1
    · obtain ⟨h32, hE⟩ := xEsc_hex hn hv
      have HE := hide hE
      obtain ⟨n, rfl⟩ : ∃ n : Nat, c = n := ⟨c.toNat, by omega⟩
      have i1 := hexI (n / 16) (by omega)
      have i2 := hexI (n % 16) (by omega)
      have r1 := xHex_rng (d := ((n / 16 : Nat) : Int)) (by omega) (by omega)
      have r2 := xHex_rng (d := ((n % 16 : Nat) : Int)) (by omega) (by omega)
      rw [show ((n / 16 : Nat) : Int) = (n : Int) / 16 by omega] at i1 r1
      rw [show ((n % 16 : Nat) : Int) = (n : Int) % 16 by omega] at i2 r2
      have a15 := u8_and15 (n : Int) c0 c1
      obtain ⟨x1, hx1⟩ : ∃ x, xHex ((n : Int) / 16) = x := ⟨_, rfl⟩
      obtain ⟨x2, hx2⟩ : ∃ x, xHex ((n : Int) % 16) = x := ⟨_, rfl⟩
      rw [hx1] at i1 r1 HE
      rw [hx2] at i2 r2 HE
      have HL := hide (fun (W : World) (hb : Below B w0 W) => letterOf_any (w := W) (c := (n : Int)) (HT.out.below hG hb))
      rw [hv] at HL
      simp only [if_true, ne_eq, not_true_eq_false, decide_false] at HL
      clear hE hn hv hx1 hx2
      go_enter Tryd.func22, Tryd.ntmps22
      go_wp2_with (first
        | (go_at_call 35; refine only_any.mono ?_; rintro e w' ⟨rfl, hb2⟩; replace H := hide (H.out.on hb2); clear hb2)
        | (go_at_call 34; refine (HI.out _).mono ?_; rintro e w' ⟨rfl, hb2⟩; replace H := hide ((H.out.on ((Below.refl _ _).alloc (Nat.le_refl _) _)).on hb2); clear hb2)
        | (go_at_call 36; refine (HL.out _ H.out.2.2).mono ?_; rintro e w' ⟨rfl, hb2⟩; replace H := hide (H.out.on hb2); clear hb2)
        | (go_at_call 37; refine (Bd.str (xs := [117, 48, 48]) H.out.1 (by simp; omega) H.out.2.1).mono ?_; rintro e w' ⟨rfl, h2, hb2⟩; replace H := hide (show BK B b _ w0 w' from ⟨h2, Nat.le_trans H.out.2.1 hb2.size, H.out.2.2.trans hb2⟩); clear h2 hb2)
        | (go_at_call 21; first
            | ((with_reducible refine (bk_byte (c := 92) H.out (by decide) (by decide) (by omega)).mono ?_); rintro e w' ⟨rfl, h2⟩; replace H := hide h2; clear h2)
            | ((with_reducible refine (bk_byte (c := x1) H.out r1.1 r1.2 (by simp; omega)).mono ?_); rintro e w' ⟨rfl, h2⟩; replace H := hide h2; clear h2)
            | ((with_reducible refine (bk_byte (c := x2) H.out r2.1 r2.2 (by simp; omega)).mono ?_); rintro e w' ⟨rfl, h2⟩; replace H := hide h2; clear h2)))
      go_end0
      refine ⟨rfl, ?_⟩
      rw [HE.out]
      simpa using H.out
    · have HE := hide (xEsc_say hn hv)
      have hr := xSay_rng hv
      have HL := hide (fun (W : World) (hb : Below B w0 W) => letterOf_any (w := W) (c := c) (HT.out.below hG hb))
      rw [if_neg hv] at HL
      simp only [ne_eq, hv, not_false_eq_true, decide_true] at HL
      obtain ⟨x, hx⟩ : ∃ x, xSay c = x := ⟨_, rfl⟩
      rw [hx] at HE hr HL
      clear hn hv hx
      go_enter Tryd.func22, Tryd.ntmps22
      go_wp2_with (first
        | (go_at_call 35; refine only_any.mono ?_; rintro e w' ⟨rfl, hb2⟩; replace H := hide (H.out.on hb2); clear hb2)
        | (go_at_call 34; refine (HI.out _).mono ?_; rintro e w' ⟨rfl, hb2⟩; replace H := hide ((H.out.on ((Below.refl _ _).alloc (Nat.le_refl _) _)).on hb2); clear hb2)
        | (go_at_call 36; refine (HL.out _ H.out.2.2).mono ?_; rintro e w' ⟨rfl, hb2⟩; replace H := hide (H.out.on hb2); clear hb2)
        | (go_at_call 21; first
            | ((with_reducible refine (bk_byte (c := 92) H.out (by decide) (by decide) (by omega)).mono ?_); rintro e w' ⟨rfl, h2⟩; replace H := hide h2; clear h2)
            | ((with_reducible refine (bk_byte (c := x) H.out hr.1 hr.2 (by simp; omega)).mono ?_); rintro e w' ⟨rfl, h2⟩; replace H := hide h2; clear h2)))
      refine bodyPost_ret (results_none rfl _ _ _) rfl ⟨rfl, ?_⟩
      rw [HE.out]
      simpa using H.out

set_option maxHeartbeats 4000000 in
set_option maxRecDepth 100000 in
theorem quote_any {w : World} {s : ByteArray} {ls ps t : List Int} (hb : uByt ls) (hs : s = strOfNums ls) (hl : ls.length ≤ 140737488351232) (hq : (xQ ls).length + 6 ≤ 140737488355328) (hS : USplit ls ps t) (ht : Tab w) :
    Calls Tryd.prog 9 #[.string s] w fun e w' => e = .returned (.tuple #[.string (strOfNums (if t.isEmpty then xQ ls else [])), .bool t.isEmpty]) ∧ Below w.heap.size w w' := by
  have hsz : s.size = ls.length := by rw [hs, strOfNums_size]
  have HB := hide (bad_any (w := w) hb hs (by omega) hS)
  have hpl : (uFlat ps).length + t.length = ls.length := by rw [hS.eq, List.length_append]
  have HX := hide (show ∀ p (h : p < s.size), (((s[p]'h).toNat : Nat) : Int) = Nt.lb ls p from fun p h => by subst hs; exact utxt_at h hb)
  have HV := hide (show ∀ p, p < ls.length → 0 ≤ Nt.lb ls p ∧ Nt.lb ls p < 256 from fun p h => by have := hb _ (List.getElem_mem h); simpa [Nt.lb, h] using this)
  have HT := hide ht
  have hG := ht.1
  obtain ⟨L, hL⟩ : ∃ L, s.size = L := ⟨_, rfl⟩
  have HLL := hide (show ls.length = L by omega)
  have hLm : L ≤ 140737488351232 := by omega
  have HQ := hide hq
  obtain ⟨m, hm⟩ : ∃ m, (uFlat ps).length = m := ⟨_, rfl⟩
  rw [hm] at HB hpl
  have hpl2 : m + t.length = L := by omega
  clear hs hS ht hb hm hpl hsz hl hq
  cases t with
  | cons x r =>
    have q1 : ((m : Int) != (L : Int)) = true := by simp at hpl2 ⊢; omega
    simp only [List.isEmpty_cons, Bool.false_eq_true, if_false]
    clear hpl2
    go_enter Tryd.func9, Tryd.ntmps9
    go_wp2_with fail
    refine HB.out.mono ?_
    rintro e w1 ⟨rfl, hb1⟩
    replace hb1 := hide hb1
    go_wp2
    go_ret2
    exact ⟨rfl, hb1.out⟩
  | nil =>
    have q1 : ((m : Int) != (L : Int)) = false := by simp at hpl2 ⊢; omega
    simp only [List.isEmpty_nil, if_true]
    clear hpl2
    go_enter Tryd.func9, Tryd.ntmps9
    go_wp2_with fail
    refine HB.out.mono ?_
    rintro e w1 ⟨rfl, hb1⟩
    have HT1 := hide (HT.out.below hG hb1)
    have HB1 := hide hb1
    have hG1 : 12 < w1.heap.size := Nat.lt_of_lt_of_le hG hb1.size
    have K0 := hide (show BK w1.heap.size w1.heap.size [] w1 (w1.alloc (.cells #[.pointer none, .slice none 0 0] 50)) from ⟨Bd.new w1, by simp, (Below.refl _ _).alloc (Nat.le_refl _) _⟩)
    clear hb1 HB
    go_wp2_with fail
    refine (bk_byte (c := 34) K0.out (by decide) (by decide) (by simp)).mono ?_
    rintro e w2 ⟨rfl, h2⟩
    have K2 := hide h2
    clear h2 K0
    go_wp2
    go_loopg [5, 14] L (fun c s5 i wr => ∃ k : Nat, k ≤ L ∧ i = .int .i64 k ∧ c = L - k ∧ Hid (BK w1.heap.size w1.heap.size ([34] ++ (ls.take k).flatMap xEsc) w1 wr))
    case atStart => exact ⟨0, by omega, rfl, by omega, hide (by simpa using K2.out)⟩
    case round =>
      obtain ⟨k, hk, rfl, hc, HK⟩ := hrel
      by_cases hlt : k < L
      · have p1 : (k : Int) < (L : Int) := by omega
        have hps : k < s.size := by omega
        have hx := HX.out k hps
        have hkl : k < ls.length := by rw [HLL.out]; exact hlt
        have hv := HV.out k hkl
        have hlen : ([34] ++ (ls.take k).flatMap xEsc).length + 6 ≤ 140737488355328 := by
          have h1 := HQ.out
          have h2 : (ls.flatMap xEsc).length = ((ls.take k).flatMap xEsc).length + ((ls.drop k).flatMap xEsc).length := by
            conv => lhs; rw [← List.take_append_drop k ls]
            rw [List.flatMap_append, List.length_append]
          unfold xQ at h1
          rw [List.length_append, List.length_append] at h1
          rw [List.length_append]
          simp only [List.length_cons, List.length_nil] at h1 ⊢
          omega
        have HS := hide (show [34] ++ (ls.take (k + 1)).flatMap xEsc = [34] ++ (ls.take k).flatMap xEsc ++ xEsc (Nt.lb ls k) by
          rw [List.take_add_one, List.getElem?_eq_getElem hkl, ulb_get hkl, Option.toList_some, List.flatMap_append, List.flatMap_cons, List.flatMap_nil, List.append_nil, List.append_assoc])
        obtain ⟨x, hxx⟩ : ∃ x, Nt.lb ls k = x := ⟨_, rfl⟩
        rw [hxx] at hx hv HS
        have HW := hide (writeByte_any HK.out HT1.out hG1 hv.1 hv.2 hlen)
        clear hxx hkl hlen
        go_wp2_with (go_at_call 22; refine HW.out.mono ?_; rintro e w3 ⟨rfl, h3⟩; replace h3 := hide h3)
        go_roundg (L - (k + 1))
        case measure => omega
        case rel => exact ⟨k + 1, by omega, by simp, rfl, hide (by rw [HS.out]; exact h3.out)⟩
      · have p1 : ¬ (k : Int) < (L : Int) := by omega
        have hke : ls.take k = ls := List.take_of_length_le (by rw [HLL.out]; omega)
        have hlen : ([34] ++ ls.flatMap xEsc).length + 1 ≤ 140737488355328 := by
          have h1 := HQ.out
          unfold xQ at h1
          rw [List.length_append] at h1
          simp only [List.length_cons, List.length_nil] at h1 ⊢
          omega
        rw [hke] at HK
        have HW := hide (bk_byte (c := 34) HK.out (by decide) (by decide) hlen)
        clear hke hlen
        go_wp2_with fail
        refine HW.out.mono ?_
        rintro e w3 ⟨rfl, h3⟩
        have HST := hide (h3.1.string h3.2.1)
        have H3 := hide h3.2
        clear h3 HW
        go_wp2_with fail
        refine HST.out.mono ?_
        rintro e w4 ⟨rfl, hb4⟩
        have HB4 := hide (HB1.out.trans ((H3.out.2.mono HB1.out.size).trans (hb4.mono HB1.out.size)))
        clear hb4
        go_wp2
        go_ret2
        exact ⟨rfl, HB4.out⟩

end Go.Proofs.YtegokdhmpopggaaDoor
