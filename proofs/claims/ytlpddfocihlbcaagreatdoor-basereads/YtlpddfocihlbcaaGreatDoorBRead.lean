/- base.FromBase64 -/
import Derived.Test.YtlpddfocihlbcaaGreatDoorBSix
namespace Go.Proofs.YtlpddfocihlbcaaGreatDoor
open Go.RowKit
set_option linter.unusedVariables false

/-- how far a text has been read: whole groups, of which the bytes ds are told -/
def BRd (es : List Int) (w wr : World) (k : Nat) (rs ds : List Int) (v : Value) : Prop := rs = es.drop (4 * k) ∧ b64 ds ++ rs = es ∧ uByt ds ∧ (rs ≠ [] → ds.length = 3 * k) ∧ ds.length ≤ es.length ∧ wr.ownsRow w.heap.size 5 1 v ds.length (ds.map (Value.int .u8)) ∧ Below w.heap.size w wr
theorem brd_bad {es rs : List Int} {k : Nat} (h : rs = es.drop (4 * k)) (hn : ∀ xs, ¬ SixOf (rs.take 4) xs) : ∀ xs, ¬ SixOf es xs := by
  rintro xs ⟨h1, h2⟩
  apply hn ((xs.drop (3 * k)).take 3)
  refine ⟨fun x hx => h1 x (List.mem_of_mem_drop (List.mem_of_mem_take hx)), ?_⟩
  rw [← (b64_four _).1, ← b64_drop, h2, ← h]
theorem brd_on {es rs ds ts : List Int} {k : Nat} (h : rs = es.drop (4 * k)) (h1 : b64 ds ++ rs = es) (h2 : uByt ds) (h3 : rs ≠ [] → ds.length = 3 * k) (hne : rs ≠ []) (hl : ds.length ≤ es.length) (ht : SixOf (rs.take 4) ts) (h4 : rs.drop 4 ≠ [] → ts.length = 3) :
    rs.drop 4 = es.drop (4 * (k + 1)) ∧ b64 (ds ++ ts) ++ rs.drop 4 = es ∧ uByt (ds ++ ts) ∧ (rs.drop 4 ≠ [] → (ds ++ ts).length = 3 * (k + 1)) ∧ (ds ++ ts).length ≤ es.length := by
  have hb : b64 (ds ++ ts) = b64 ds ++ rs.take 4 := by rw [b64_app _ (by rw [h3 hne]; omega), ht.2]
  have he : b64 (ds ++ ts) ++ rs.drop 4 = es := by rw [hb, List.append_assoc, List.take_append_drop]; exact h1
  refine ⟨by rw [h, List.drop_drop]; rfl, he, fun x hx => ?_, fun hd => by rw [List.length_append, h3 hne, h4 hd]; omega, ?_⟩
  · rcases List.mem_append.1 hx with hx | hx
    · exact h2 x hx
    · exact ht.1 x hx
  · have e := congrArg List.length he
    have l := b64_len (ds ++ ts)
    rw [List.length_append] at e
    omega
theorem cat_txt {es : List Int} (n : Nat) : (strOfNums es).extract n (strOfNums es).size = strOfNums (es.drop n) := by
  rw [utxt_cut, strOfNums_size, List.take_length]

set_option maxRecDepth 100000 in
set_option maxHeartbeats 8000000 in
theorem from64_any {w : World} {s : ByteArray} {es : List Int} (hs : s = strOfNums es) (hb : uByt es) (hl : es.length ≤ 67108864) :
    Calls Tryz.prog 9 #[.string s] w fun e w' => BAns (SixOf es) w w' e := by
  subst hs
  have HBy := hide hb
  clear hb
  have hsz : (strOfNums es).size = es.length := strOfNums_size es
  have q1 : -9223372036854775808 ≤ ((es.length : Int) + 3) / 4 * 3 := by omega
  have q2 : ((es.length : Int) + 3) / 4 * 3 ≤ 9223372036854775807 := by omega
  go_enter Tryz.func9, Tryz.ntmps9
  go_wp2_with (at_make; refine wpList_make_row _ rfl _ _ 39 rfl 5 .u8 1 Tryz.underlying39 Tryz.infoY8 _ _ _ _ 0 ((es.length + 3) / 4 * 3) rfl rfl (by omega) (by omega) (by omega) (by omega) (by unfold maxLen; omega) ?_)
  intro w1 hrow hbel hsw
  have HO := hide (own_of_made (B := w.heap.size) hrow (Nat.le_refl _) (by unfold maxLen; omega))
  have HB := hide hbel
  clear hrow hbel
  go_wp2
  go_loopw [0, 4] (fun s0 s4 wr => ∃ (k : Nat) (rs ds : List Int) (v : Value), s4 = v ∧ s0 = .string (strOfNums rs) ∧ rs.length ≤ 67108864 ∧ Hid (uByt rs) ∧ Hid (BRd es w wr k rs ds v)) (fun s0 _ _ => lenOf' s0)
  case atStart => exact ⟨0, es, [], _, rfl, rfl, hl, HBy, hide ⟨rfl, rfl, fun x hx => by simp at hx, fun _ => rfl, by simp, HO.out, HB.out⟩⟩
  case round =>
    obtain ⟨k, rs, ds, v, rfl, rfl, hrl, HRb, HT⟩ := hrel
    clear HO HB
    have hsr : (strOfNums rs).size = rs.length := strOfNums_size rs
    by_cases hlt : 0 < rs.length
    · have hlt1 : (0 : Int) < (rs.length : Int) := by omega
      have hne := hide (show rs ≠ [] from fun e => by rw [e] at hlt; simp at hlt)
      have hlen := hide (show ds.length ≤ 67108864 from Nat.le_trans HT.out.2.2.2.2.1 hl)
      have HCt := hide (fun n => cat_txt (es := rs) n)
      rcases (show rs.length = 1 ∨ rs.length = 2 ∨ rs.length = 3 ∨ 4 ≤ rs.length by omega) with hN1 | hN1 | hN1 | hN1
      · obtain ⟨w2, hcp, hg2, hb2⟩ := copy_text (wr := wr) (n := 1) (m := 4) (rs := rs) 52 HRb.out (by rw [hN1]; decide)
        have hcp : (Builtin.copy_ #[39, 9] 3 #[.slice (some ⟨wr.heap.size, 0, none⟩) 4 4, .string (strOfNums rs)]).run Tryz.prog (wr.alloc (.cells #[.int .u8 0, .int .u8 0, .int .u8 0, .int .u8 0] 52)) = .ok (.int .i64 1) w2 := hcp
        have htk := hide (show rs.take 4 = rs.take 1 ∧ (rs.take 1).length = 1 from ⟨by rw [List.take_of_length_le (by omega), List.take_of_length_le (by omega)], by rw [List.length_take]; omega⟩)
        have HG := hide (show Row .u8 52 w2 wr.heap.size (rs.take 1 ++ List.replicate (4 - 1) 0) from hg2)
        have HF := hide (three_one (w := w2) (g := wr.heap.size) (cap := 4) (x0 := Nt.lb rs 0))
        have e1 : [Nt.lb rs 0] = rs.take 4 := by rw [htk.out.1]; obtain ⟨a, rfl⟩ := list1' hN1; rfl
        rw [e1] at HF
        have HB2 := hide hb2
        clear hg2 hb2 HG
        have ct := HCt.out 1
        rw [hsr] at ct
        rw [hN1] at hlt1 hsr ct
        go_wp2_with fail
        refine (HF.out).mono ?_
        rintro e w3 ⟨⟨a, b, c, ka, kb, kc, hsix, rfl⟩ | ⟨hno, rfl⟩, k3⟩
        · exact absurd hsix (six_lone (by rw [htk.out.1, htk.out.2]))
        · have HB3 := hide (HB2.out.trans (k3.mono HB2.out.size))
          have HN := hide (brd_bad HT.out.1 hno)
          have HB5 := hide (b4_keep (w1 := w) (g := 0) HT.out.2.2.2.2.2.2 (HB3.out.alloc HB3.out.size (.cells #[.int .u8 0, .int .u8 0, .int .u8 0] 53)))
          clear k3 HB2 HF hno
          go_wp2
          go_ret2
          exact ⟨.inr ⟨HN.out, rfl⟩, HB5.out⟩
      · obtain ⟨w2, hcp, hg2, hb2⟩ := copy_text (wr := wr) (n := 2) (m := 4) (rs := rs) 52 HRb.out (by rw [hN1]; decide)
        have hcp : (Builtin.copy_ #[39, 9] 3 #[.slice (some ⟨wr.heap.size, 0, none⟩) 4 4, .string (strOfNums rs)]).run Tryz.prog (wr.alloc (.cells #[.int .u8 0, .int .u8 0, .int .u8 0, .int .u8 0] 52)) = .ok (.int .i64 2) w2 := hcp
        have htk := hide (show rs.take 4 = rs.take 2 ∧ (rs.take 2).length = 2 from ⟨by rw [List.take_of_length_le (by omega), List.take_of_length_le (by omega)], by rw [List.length_take]; omega⟩)
        have HG := hide (show Row .u8 52 w2 wr.heap.size (rs.take 2 ++ List.replicate (4 - 2) 0) from hg2)
        have HC2 := (row_cells HG.out).take (n := 2) (by rw [List.length_append, htk.out.2]; omega)
        rw [List.take_append_of_le_length (by rw [htk.out.2]; omega), List.take_take, Nat.min_self] at HC2
        have HF := hide (three_more (w := w2) (g := wr.heap.size) (cap := 4) (gs := rs.take 2) HC2 (fun x hx => HRb.out x (List.mem_of_mem_take hx)) (by rw [htk.out.2]; omega) (by rw [htk.out.2]; omega) (by rw [htk.out.2]; omega) (by omega))
        rw [htk.out.2, ← htk.out.1] at HF
        clear HC2
        have HB2 := hide hb2
        clear hg2 hb2 HG
        have ct := HCt.out 2
        rw [hsr] at ct
        rw [hN1] at hlt1 hsr ct
        go_wp2_with fail
        refine (HF.out).mono ?_
        rintro e w3 ⟨⟨a, b, c, ka, kb, kc, hsix, rfl⟩ | ⟨hno, rfl⟩, k3⟩
        · have HB3 := hide (HB2.out.trans (k3.mono HB2.out.size))
          clear k3 HB2 HF
          have hsix : SixOf (rs.take 4) [a] := by have h := hsix; rw [htk.out.1, htk.out.2] at h; rw [htk.out.1]; exact h
          obtain ⟨t1, t2, t3, t4, t5, t6, t7⟩ := HT.out
          have HN := hide (brd_on t1 t2 t3 t4 hne.out t5 hsix (fun hd => absurd (List.drop_eq_nil_of_le (by omega)) hd))
          have HO3 := hide (own_keep (own_keep t6 HB3.out) (al_b w3 (.cells #[.int .u8 a, .int .u8 b, .int .u8 c] 53)))
          have HC3 := hide ((row_cells (show Row .u8 53 (w3.alloc (.cells #[.int .u8 a, .int .u8 b, .int .u8 c] 53)) w3.heap.size [a, b, c] from heap_alloc_new _ _)).take (n := 1) (by simp))
          have hs3 := hide (show w.heap.size ≤ w3.heap.size from Nat.le_trans t7.size HB3.out.size)
          have HT7 := hide t7
          have h63 := hide (show ds.length + [a].length ≤ maxLen ∧ (ds.length + [a].length) * 1 ≤ 140737488355328 from ⟨by unfold maxLen; simp; have := hlen.out; omega, by simp; have := hlen.out; omega⟩)
          clear t1 t2 t3 t4 t5 t6 t7 hsix
          go_wp2_with (at_builtin; refine uwpList_append_ints _ rfl _ _ 39 rfl w.heap.size 5 .u8 1 Tryz.underlying39 Tryz.infoY8 _ _ _ rfl HO3.out _ _ [a] rfl HC3.out h63.out.1 h63.out.2 (by have := hs3.out; simp; omega) ?_)
          intro v' w5 hown' hgrow
          have HO5 := hide (show w5.ownsRow w.heap.size 5 1 v' (ds ++ [a]).length ((ds ++ [a]).map (Value.int .u8)) by rw [List.length_append, List.map_append]; exact hown')
          have HB5 := hide (bown_below (b4_keep (w1 := w) (g := 0) HT7.out (HB3.out.alloc HB3.out.size _)) (by have := hs3.out; simp; omega) HO3.out hgrow)
          clear hown' hgrow
          go_wp2
          go_roundw
          case rel => exact ⟨k + 1, rs.drop 4, ds ++ [a], v', rfl, by rw [List.drop_eq_nil_of_le (show rs.length ≤ 4 by omega)]; rfl, by rw [List.length_drop]; omega, hide (fun x hx => HRb.out x (List.mem_of_mem_drop hx)), hide ⟨HN.out.1, HN.out.2.1, HN.out.2.2.1, HN.out.2.2.2.1, HN.out.2.2.2.2, HO5.out, HB5.out⟩⟩
          case measure => simp [lenOf', strOfNums_size]; omega
        · have HB3 := hide (HB2.out.trans (k3.mono HB2.out.size))
          have HN := hide (brd_bad HT.out.1 hno)
          have HB5 := hide (b4_keep (w1 := w) (g := 0) HT.out.2.2.2.2.2.2 (HB3.out.alloc HB3.out.size (.cells #[.int .u8 0, .int .u8 0, .int .u8 0] 53)))
          clear k3 HB2 HF hno
          go_wp2
          go_ret2
          exact ⟨.inr ⟨HN.out, rfl⟩, HB5.out⟩
      · obtain ⟨w2, hcp, hg2, hb2⟩ := copy_text (wr := wr) (n := 3) (m := 4) (rs := rs) 52 HRb.out (by rw [hN1]; decide)
        have hcp : (Builtin.copy_ #[39, 9] 3 #[.slice (some ⟨wr.heap.size, 0, none⟩) 4 4, .string (strOfNums rs)]).run Tryz.prog (wr.alloc (.cells #[.int .u8 0, .int .u8 0, .int .u8 0, .int .u8 0] 52)) = .ok (.int .i64 3) w2 := hcp
        have htk := hide (show rs.take 4 = rs.take 3 ∧ (rs.take 3).length = 3 from ⟨by rw [List.take_of_length_le (by omega), List.take_of_length_le (by omega)], by rw [List.length_take]; omega⟩)
        have HG := hide (show Row .u8 52 w2 wr.heap.size (rs.take 3 ++ List.replicate (4 - 3) 0) from hg2)
        have HC2 := (row_cells HG.out).take (n := 3) (by rw [List.length_append, htk.out.2]; omega)
        rw [List.take_append_of_le_length (by rw [htk.out.2]; omega), List.take_take, Nat.min_self] at HC2
        have HF := hide (three_more (w := w2) (g := wr.heap.size) (cap := 4) (gs := rs.take 3) HC2 (fun x hx => HRb.out x (List.mem_of_mem_take hx)) (by rw [htk.out.2]; omega) (by rw [htk.out.2]; omega) (by rw [htk.out.2]; omega) (by omega))
        rw [htk.out.2, ← htk.out.1] at HF
        clear HC2
        have HB2 := hide hb2
        clear hg2 hb2 HG
        have ct := HCt.out 3
        rw [hsr] at ct
        rw [hN1] at hlt1 hsr ct
        go_wp2_with fail
        refine (HF.out).mono ?_
        rintro e w3 ⟨⟨a, b, c, ka, kb, kc, hsix, rfl⟩ | ⟨hno, rfl⟩, k3⟩
        · have HB3 := hide (HB2.out.trans (k3.mono HB2.out.size))
          clear k3 HB2 HF
          have hsix : SixOf (rs.take 4) [a, b] := by have h := hsix; rw [htk.out.1, htk.out.2] at h; rw [htk.out.1]; exact h
          obtain ⟨t1, t2, t3, t4, t5, t6, t7⟩ := HT.out
          have HN := hide (brd_on t1 t2 t3 t4 hne.out t5 hsix (fun hd => absurd (List.drop_eq_nil_of_le (by omega)) hd))
          have HO3 := hide (own_keep (own_keep t6 HB3.out) (al_b w3 (.cells #[.int .u8 a, .int .u8 b, .int .u8 c] 53)))
          have HC3 := hide ((row_cells (show Row .u8 53 (w3.alloc (.cells #[.int .u8 a, .int .u8 b, .int .u8 c] 53)) w3.heap.size [a, b, c] from heap_alloc_new _ _)).take (n := 2) (by simp))
          have hs3 := hide (show w.heap.size ≤ w3.heap.size from Nat.le_trans t7.size HB3.out.size)
          have HT7 := hide t7
          have h63 := hide (show ds.length + [a, b].length ≤ maxLen ∧ (ds.length + [a, b].length) * 1 ≤ 140737488355328 from ⟨by unfold maxLen; simp; have := hlen.out; omega, by simp; have := hlen.out; omega⟩)
          clear t1 t2 t3 t4 t5 t6 t7 hsix
          go_wp2_with (at_builtin; refine uwpList_append_ints _ rfl _ _ 39 rfl w.heap.size 5 .u8 1 Tryz.underlying39 Tryz.infoY8 _ _ _ rfl HO3.out _ _ [a, b] rfl HC3.out h63.out.1 h63.out.2 (by have := hs3.out; simp; omega) ?_)
          intro v' w5 hown' hgrow
          have HO5 := hide (show w5.ownsRow w.heap.size 5 1 v' (ds ++ [a, b]).length ((ds ++ [a, b]).map (Value.int .u8)) by rw [List.length_append, List.map_append]; exact hown')
          have HB5 := hide (bown_below (b4_keep (w1 := w) (g := 0) HT7.out (HB3.out.alloc HB3.out.size _)) (by have := hs3.out; simp; omega) HO3.out hgrow)
          clear hown' hgrow
          go_wp2
          go_roundw
          case rel => exact ⟨k + 1, rs.drop 4, ds ++ [a, b], v', rfl, by rw [List.drop_eq_nil_of_le (show rs.length ≤ 4 by omega)]; rfl, by rw [List.length_drop]; omega, hide (fun x hx => HRb.out x (List.mem_of_mem_drop hx)), hide ⟨HN.out.1, HN.out.2.1, HN.out.2.2.1, HN.out.2.2.2.1, HN.out.2.2.2.2, HO5.out, HB5.out⟩⟩
          case measure => simp [lenOf', strOfNums_size]; omega
        · have HB3 := hide (HB2.out.trans (k3.mono HB2.out.size))
          have HN := hide (brd_bad HT.out.1 hno)
          have HB5 := hide (b4_keep (w1 := w) (g := 0) HT.out.2.2.2.2.2.2 (HB3.out.alloc HB3.out.size (.cells #[.int .u8 0, .int .u8 0, .int .u8 0] 53)))
          clear k3 HB2 HF hno
          go_wp2
          go_ret2
          exact ⟨.inr ⟨HN.out, rfl⟩, HB5.out⟩
      · obtain ⟨w2, hcp, hg2, hb2⟩ := copy_text (wr := wr) (n := 4) (m := 4) (rs := rs) 52 HRb.out (by show 4 = min rs.length 4; omega)
        have hcp : (Builtin.copy_ #[39, 9] 3 #[.slice (some ⟨wr.heap.size, 0, none⟩) 4 4, .string (strOfNums rs)]).run Tryz.prog (wr.alloc (.cells #[.int .u8 0, .int .u8 0, .int .u8 0, .int .u8 0] 52)) = .ok (.int .i64 4) w2 := hcp
        have htk := hide (show rs.take 4 = rs.take 4 ∧ (rs.take 4).length = 4 from ⟨rfl, by rw [List.length_take]; omega⟩)
        have HG := hide (show Row .u8 52 w2 wr.heap.size (rs.take 4 ++ List.replicate (4 - 4) 0) from hg2)
        have HC2 := (row_cells HG.out).take (n := 4) (by rw [List.length_append, htk.out.2]; omega)
        rw [List.take_append_of_le_length (by rw [htk.out.2]; omega), List.take_take, Nat.min_self] at HC2
        have HF := hide (three_more (w := w2) (g := wr.heap.size) (cap := 4) (gs := rs.take 4) HC2 (fun x hx => HRb.out x (List.mem_of_mem_take hx)) (by rw [htk.out.2]; omega) (by rw [htk.out.2]; omega) (by rw [htk.out.2]; omega) (by omega))
        rw [htk.out.2, ← htk.out.1] at HF
        clear HC2
        have HB2 := hide hb2
        clear hg2 hb2 HG
        have ct := HCt.out 4
        rw [hsr] at ct
        go_wp2_with fail
        refine (HF.out).mono ?_
        rintro e w3 ⟨⟨a, b, c, ka, kb, kc, hsix, rfl⟩ | ⟨hno, rfl⟩, k3⟩
        · have HB3 := hide (HB2.out.trans (k3.mono HB2.out.size))
          clear k3 HB2 HF
          have hsix : SixOf (rs.take 4) [a, b, c] := by have h := hsix; rw [show (rs.take 4).length = 4 by rw [List.length_take]; omega] at h; exact h
          obtain ⟨t1, t2, t3, t4, t5, t6, t7⟩ := HT.out
          have HN := hide (brd_on t1 t2 t3 t4 hne.out t5 hsix (fun hd => rfl))
          have HO3 := hide (own_keep (own_keep t6 HB3.out) (al_b w3 (.cells #[.int .u8 a, .int .u8 b, .int .u8 c] 53)))
          have HC3 := hide ((row_cells (show Row .u8 53 (w3.alloc (.cells #[.int .u8 a, .int .u8 b, .int .u8 c] 53)) w3.heap.size [a, b, c] from heap_alloc_new _ _)).take (n := 3) (by simp))
          have hs3 := hide (show w.heap.size ≤ w3.heap.size from Nat.le_trans t7.size HB3.out.size)
          have HT7 := hide t7
          have h63 := hide (show ds.length + [a, b, c].length ≤ maxLen ∧ (ds.length + [a, b, c].length) * 1 ≤ 140737488355328 from ⟨by unfold maxLen; simp; have := hlen.out; omega, by simp; have := hlen.out; omega⟩)
          clear t1 t2 t3 t4 t5 t6 t7 hsix
          go_wp2_with (at_builtin; refine uwpList_append_ints _ rfl _ _ 39 rfl w.heap.size 5 .u8 1 Tryz.underlying39 Tryz.infoY8 _ _ _ rfl HO3.out _ _ [a, b, c] rfl HC3.out h63.out.1 h63.out.2 (by have := hs3.out; simp; omega) ?_)
          intro v' w5 hown' hgrow
          have HO5 := hide (show w5.ownsRow w.heap.size 5 1 v' (ds ++ [a, b, c]).length ((ds ++ [a, b, c]).map (Value.int .u8)) by rw [List.length_append, List.map_append]; exact hown')
          have HB5 := hide (bown_below (b4_keep (w1 := w) (g := 0) HT7.out (HB3.out.alloc HB3.out.size _)) (by have := hs3.out; simp; omega) HO3.out hgrow)
          clear hown' hgrow
          go_wp2
          go_roundw
          case rel => exact ⟨k + 1, rs.drop 4, ds ++ [a, b, c], v', rfl, rfl, by rw [List.length_drop]; omega, hide (fun x hx => HRb.out x (List.mem_of_mem_drop hx)), hide ⟨HN.out.1, HN.out.2.1, HN.out.2.2.1, HN.out.2.2.2.1, HN.out.2.2.2.2, HO5.out, HB5.out⟩⟩
          case measure => simp [lenOf', strOfNums_size]; omega
        · have HB3 := hide (HB2.out.trans (k3.mono HB2.out.size))
          have HN := hide (brd_bad HT.out.1 hno)
          have HB5 := hide (b4_keep (w1 := w) (g := 0) HT.out.2.2.2.2.2.2 (HB3.out.alloc HB3.out.size (.cells #[.int .u8 0, .int .u8 0, .int .u8 0] 53)))
          clear k3 HB2 HF hno
          go_wp2
          go_ret2
          exact ⟨.inr ⟨HN.out, rfl⟩, HB5.out⟩
    · have e : rs = [] := List.eq_nil_of_length_eq_zero (by omega)
      subst e
      have e2 := HT.out.2.1
      rw [List.append_nil] at e2
      have H2 := hide (And.intro HT.out.2.2.1 e2)
      have HO := hide HT.out.2.2.2.2.2.1
      have HB := hide HT.out.2.2.2.2.2.2
      clear e2
      go_wp2
      go_ret2
      exact ⟨.inl ⟨_, ds, H2.out, rfl, HO.out⟩, HB.out⟩

end Go.Proofs.YtlpddfocihlbcaaGreatDoor
