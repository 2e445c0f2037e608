/- base.FromBase64, and all of the answer's memory -/
import Derived.Test.YtlpddfocihlbcaaGreatDoorYFrom
namespace Go.Proofs.YtlpddfocihlbcaaGreatDoor
open Go.RowKit
set_option linter.unusedVariables false

def YRd (es : List Int) (w wr : World) (k : Nat) (rs ds rest : List Int) : Prop := rs = es.drop (4 * k) ∧ b64 ds ++ rs = es ∧ uByt ds ∧ (rs ≠ [] → ds.length = 3 * k) ∧ ds.length ≤ es.length ∧ Row .u8 5 wr w.heap.size (ds ++ rest) ∧ Below w.heap.size w wr
theorem bbel_y {B w1 w2 : World} (h : Below B.heap.size B w1) (g : Below w1.heap.size w1 w2) : Below B.heap.size B w2 := h.trans (g.mono h.size)
theorem yroom {es rs ds rest ys : List Int} {C k : Nat} (hC : C = (es.length + 3) / 4 * 3) (hl : (ds ++ rest).length = C) (n : Nat) (hd : ds.length = 3 * k) (h : rs = es.drop (4 * k)) (hr : 1 ≤ rs.length) (hy : ys.length ≤ 3 ∧ ys.length < 4) : ys.length ≤ rest.length := by
  rw [List.length_append] at hl
  have := congrArg List.length h
  rw [List.length_drop] at this
  omega
theorem ylen {ds rest ys : List Int} {C : Nat} (h : (ds ++ rest).length = C) (hy : ys.length ≤ rest.length) : ((ds ++ ys) ++ rest.drop ys.length).length = C := by
  rw [List.length_append] at h
  rw [List.length_append, List.length_append, List.length_drop]
  omega
theorem ygrow {w0 w w' : World} {B : Nat} (h : Below B w0 w) (hB : B ≤ w.heap.size) (hg : w.grownBy w' (some B)) : Below B w0 w' :=
  h.grown hg hB (fun k hk => by injection hk with e; omega)
/-- append where there is room, all of the memory known -/
theorem wpList_append_row {P : Program} {w : World} {ops : Array Oper} {rest' : List Oper} {o : Oper} {a : Act} {Q : Exit → Act → World → Prop} (hgd : o.guard = none) (s x : Operand) (t : TypeId)
    (ho : o.op = .call { callee := .builtin .append, args := #[s, x], argTypes := #[t, t] }) (ht : P.underlying t = some (.slice 5)) (hinf : (P.info? 5).map (fun i => (i.zero, i.size, i.bytes)) = some (some (.int .u8 0), 1, 1))
    (g D C : Nat) (xs rest ys : List Int) (ao : Option Addr) (cx : Nat) (hs : a.eval s = .slice (some ⟨g, 0, none⟩) D C) (hD : D = xs.length) (hC : (xs ++ rest).length = C) (hR : Row .u8 5 w g (xs ++ rest)) (hx : a.eval x = .slice ao ys.length cx) (hc : Cells .u8 w ao ys) (hy : 0 < ys.length) (hroom : ys.length ≤ rest.length)
    (hK : ∀ w', Row .u8 5 w' g ((xs ++ ys) ++ rest.drop ys.length) → w.grownBy w' (some g) → wpList P ops Q rest' (a.put o.dst (.slice (some ⟨g, 0, none⟩) (D + ys.length) C)) w') : wpList P ops Q (o :: rest') a w := by
  obtain ⟨i, hi, hz, hsz, hby⟩ := info_parts hinf
  obtain ⟨b, off, rfl, hb, hcell⟩ := hc hy
  subst hD
  rw [List.length_append] at hC
  have hr := run_append_room (P := P) w t o.type 5 i ht hi g xs.length C _ hR ⟨b, off, none⟩ ys.length cx (ys.map (Value.int .u8)) (by rw [hsz]; simp) (copy_src rfl hcell (by simp)) (ints_one _ _) (by omega) (by rw [hsz]; simp; omega)
  simp only [hsz, Nat.mul_one, List.length_map] at hr
  refine wpList_plain hgd fun K hK' => ?_
  unfold Oper.wp execOp
  simp only [ho, resolve, invoke, builtin, Sem.run_bind, Sem.run_pure, Result.andThen_ok, List.map_toArray, List.map_cons, List.map_nil, hs, hx, hr]
  refine hK' _ _ (hK _ ?_ ⟨rfl, rfl, rfl, by simp [World.setRow], fun k _ hk => setRow_other w g k _ (fun e => hk (by rw [e]))⟩)
  unfold Row
  rw [setRow_heap w g _ _ _ _ hR]
  congr 2
  apply congrArg List.toArray
  simp only [List.map_append]
  rw [List.take_left' (by simp), List.drop_append, List.drop_eq_nil_of_le (by simp), List.nil_append]
  simp

set_option maxRecDepth 100000 in
set_option maxHeartbeats 8000000 in
theorem yfrom64_any {w : World} {s : ByteArray} {es : List Int} (hs : s = strOfNums es) (hb : uByt es) (hl : es.length ≤ 67108864) :
    Calls Tryz.prog 9 #[.string s] w fun e w' => YAns (SixOf es) w w' e := by
  subst hs
  have HBy := hide hb
  clear hb
  have hsz : (strOfNums es).size = es.length := strOfNums_size es
  have q1 : -9223372036854775808 ≤ ((es.length : Int) + 3) / 4 * 3 := by omega
  have q2 : ((es.length : Int) + 3) / 4 * 3 ≤ 9223372036854775807 := by omega
  go_enter Tryz.func9, Tryz.ntmps9
  go_wp2_with (at_make; refine wpList_make_row _ rfl _ _ 39 rfl 5 .u8 1 Tryz.underlying39 Tryz.infoY8 _ _ _ _ 0 ((es.length + 3) / 4 * 3) rfl rfl (by omega) (by omega) (by omega) (by omega) (by unfold maxLen; omega) ?_)
  intro w1 hrow hbel hsw
  have HO := hide hrow
  obtain ⟨C, hC⟩ : ∃ C, C = (es.length + 3) / 4 * 3 := ⟨_, rfl⟩
  rw [← hC] at HO ⊢
  have HCC := hide hC
  have hCm : C ≤ 67108900 := by omega
  clear hC
  have HB := hide hbel
  clear hrow hbel
  go_wp2
  go_loopw [0, 4] (fun s0 s4 wr => ∃ (k D : Nat) (rs ds rest : List Int), s4 = .slice (some ⟨w.heap.size, 0, none⟩) D C ∧ s0 = .string (strOfNums rs) ∧ rs.length ≤ 67108864 ∧ D ≤ C ∧ Hid (D = ds.length ∧ (ds ++ rest).length = C) ∧ Hid (uByt rs) ∧ Hid (YRd es w wr k rs ds rest)) (fun s0 _ _ => lenOf' s0)
  case atStart => exact ⟨0, 0, es, [], List.replicate C 0, rfl, rfl, hl, by omega, hide ⟨rfl, by simp⟩, HBy, hide ⟨rfl, rfl, fun x hx => by simp at hx, fun _ => rfl, by simp, HO.out, HB.out⟩⟩
  case round =>
    obtain ⟨k, D, rs, ds, rest, rfl, rfl, hrl, hDC, HD, HRb, HT⟩ := hrel
    clear HO HB
    have hsr : (strOfNums rs).size = rs.length := strOfNums_size rs
    by_cases hlt : 0 < rs.length
    · have hlt1 : (0 : Int) < (rs.length : Int) := by omega
      have hne := hide (show rs ≠ [] from fun e => by rw [e] at hlt; simp at hlt)
      have hlen := hide (show ds.length ≤ 67108864 from Nat.le_trans HT.out.2.2.2.2.1 hl)
      have HCt := hide (fun n => cat_txt (es := rs) n)
      rcases (show rs.length = 1 ∨ rs.length = 2 ∨ rs.length = 3 ∨ 4 ≤ rs.length by omega) with hN1 | hN1 | hN1 | hN1
      · obtain ⟨w2, hcp, hg2, hb2⟩ := copy_text (wr := wr) (n := 1) (m := 4) (rs := rs) 52 HRb.out (by rw [hN1]; decide)
        have hcp : (Builtin.copy_ #[39, 9] 3 #[.slice (some ⟨wr.heap.size, 0, none⟩) 4 4, .string (strOfNums rs)]).run Tryz.prog (wr.alloc (.cells #[.int .u8 0, .int .u8 0, .int .u8 0, .int .u8 0] 52)) = .ok (.int .i64 1) w2 := hcp
        have htk := hide (show rs.take 4 = rs.take 1 ∧ (rs.take 1).length = 1 from ⟨by rw [List.take_of_length_le (by omega), List.take_of_length_le (by omega)], by rw [List.length_take]; omega⟩)
        have HG := hide (show Row .u8 52 w2 wr.heap.size (rs.take 1 ++ List.replicate (4 - 1) 0) from hg2)
        have HF := hide (three_one (w := w2) (g := wr.heap.size) (cap := 4) (x0 := Nt.lb rs 0))
        have e1 : [Nt.lb rs 0] = rs.take 4 := by rw [htk.out.1]; obtain ⟨a, rfl⟩ := list1' hN1; rfl
        rw [e1] at HF
        have HB2 := hide hb2
        clear hg2 hb2 HG
        have ct := HCt.out 1
        rw [hsr] at ct
        rw [hN1] at hlt1 hsr ct
        go_wp2_with fail
        refine (HF.out).mono ?_
        rintro e w3 ⟨⟨a, b, c, ka, kb, kc, hsix, rfl⟩ | ⟨hno, rfl⟩, k3⟩
        · exact absurd hsix (six_lone (by rw [htk.out.1, htk.out.2]))
        · have HB3 := hide (HB2.out.trans (k3.mono HB2.out.size))
          have HN := hide (brd_bad HT.out.1 hno)
          have HB5 := hide (b4_keep (w1 := w) (g := 0) HT.out.2.2.2.2.2.2 (HB3.out.alloc HB3.out.size (.cells #[.int .u8 0, .int .u8 0, .int .u8 0] 53)))
          clear k3 HB2 HF hno
          go_wp2
          go_ret2
          exact ⟨.inr ⟨HN.out, rfl⟩, HB5.out⟩
      · obtain ⟨w2, hcp, hg2, hb2⟩ := copy_text (wr := wr) (n := 2) (m := 4) (rs := rs) 52 HRb.out (by rw [hN1]; decide)
        have hcp : (Builtin.copy_ #[39, 9] 3 #[.slice (some ⟨wr.heap.size, 0, none⟩) 4 4, .string (strOfNums rs)]).run Tryz.prog (wr.alloc (.cells #[.int .u8 0, .int .u8 0, .int .u8 0, .int .u8 0] 52)) = .ok (.int .i64 2) w2 := hcp
        have htk := hide (show rs.take 4 = rs.take 2 ∧ (rs.take 2).length = 2 from ⟨by rw [List.take_of_length_le (by omega), List.take_of_length_le (by omega)], by rw [List.length_take]; omega⟩)
        have HG := hide (show Row .u8 52 w2 wr.heap.size (rs.take 2 ++ List.replicate (4 - 2) 0) from hg2)
        have HC2 := (row_cells HG.out).take (n := 2) (by rw [List.length_append, htk.out.2]; omega)
        rw [List.take_append_of_le_length (by rw [htk.out.2]; omega), List.take_take, Nat.min_self] at HC2
        have HF := hide (three_more (w := w2) (g := wr.heap.size) (cap := 4) (gs := rs.take 2) HC2 (fun x hx => HRb.out x (List.mem_of_mem_take hx)) (by rw [htk.out.2]; omega) (by rw [htk.out.2]; omega) (by rw [htk.out.2]; omega) (by omega))
        rw [htk.out.2, ← htk.out.1] at HF
        clear HC2
        have HB2 := hide hb2
        clear hg2 hb2 HG
        have ct := HCt.out 2
        rw [hsr] at ct
        rw [hN1] at hlt1 hsr ct
        go_wp2_with fail
        refine (HF.out).mono ?_
        rintro e w3 ⟨⟨a, b, c, ka, kb, kc, hsix, rfl⟩ | ⟨hno, rfl⟩, k3⟩
        · have HB3 := hide (HB2.out.trans (k3.mono HB2.out.size))
          clear k3 HB2 HF
          have hsix : SixOf (rs.take 4) [a] := by have h := hsix; rw [htk.out.1, htk.out.2] at h; rw [htk.out.1]; exact h
          obtain ⟨t1, t2, t3, t4, t5, t6, t7⟩ := HT.out
          have HN := hide (brd_on t1 t2 t3 t4 hne.out t5 hsix (fun hd => absurd (List.drop_eq_nil_of_le (by omega)) hd))
          have HO3 := hide (t6.keeps (bbel_y HB3.out (al_b w3 (.cells #[.int .u8 a, .int .u8 b, .int .u8 c] 53))))
          have HC3 := hide ((row_cells (show Row .u8 53 (w3.alloc (.cells #[.int .u8 a, .int .u8 b, .int .u8 c] 53)) w3.heap.size [a, b, c] from heap_alloc_new _ _)).take (n := 1) (by simp))
          have hs3 := hide (show w.heap.size ≤ w3.heap.size from Nat.le_trans t7.size HB3.out.size)
          have HT7 := hide t7
          have hroom := hide (show [a].length ≤ rest.length from yroom HCC.out HD.out.2 (rs.length) (t4 hne.out) t1 (by omega) (by simp))
          clear t1 t2 t3 t4 t5 t6 t7 hsix
          go_wp2_with (at_builtin; refine wpList_append_row rfl _ _ 39 rfl Tryz.underlying39 Tryz.infoY8 w.heap.size D C ds rest [a] _ _ rfl HD.out.1 HD.out.2 HO3.out rfl HC3.out (by simp) hroom.out ?_)
          intro w5 hrow5 hgrow
          have HO5 := hide (show Row .u8 5 w5 w.heap.size ((ds ++ [a]) ++ rest.drop [a].length) by simpa using hrow5)
          have HB5 := hide (ygrow (b4_keep (w1 := w) (g := 0) HT7.out (HB3.out.alloc HB3.out.size _)) (by have := hs3.out; simp; omega) hgrow)
          clear hrow5 hgrow
          go_wp2
          go_roundw
          case rel => exact ⟨k + 1, D + [a].length, rs.drop 4, ds ++ [a], rest.drop [a].length, rfl, by rw [List.drop_eq_nil_of_le (show rs.length ≤ 4 by omega)]; rfl, by rw [List.length_drop]; omega, by have := hroom.out; have := HD.out; simp at *; omega, hide ⟨by rw [List.length_append, HD.out.1], ylen HD.out.2 hroom.out⟩, hide (fun x hx => HRb.out x (List.mem_of_mem_drop hx)), hide ⟨HN.out.1, HN.out.2.1, HN.out.2.2.1, HN.out.2.2.2.1, HN.out.2.2.2.2, HO5.out, HB5.out⟩⟩
          case measure => simp [lenOf', strOfNums_size]; omega
        · have HB3 := hide (HB2.out.trans (k3.mono HB2.out.size))
          have HN := hide (brd_bad HT.out.1 hno)
          have HB5 := hide (b4_keep (w1 := w) (g := 0) HT.out.2.2.2.2.2.2 (HB3.out.alloc HB3.out.size (.cells #[.int .u8 0, .int .u8 0, .int .u8 0] 53)))
          clear k3 HB2 HF hno
          go_wp2
          go_ret2
          exact ⟨.inr ⟨HN.out, rfl⟩, HB5.out⟩
      · obtain ⟨w2, hcp, hg2, hb2⟩ := copy_text (wr := wr) (n := 3) (m := 4) (rs := rs) 52 HRb.out (by rw [hN1]; decide)
        have hcp : (Builtin.copy_ #[39, 9] 3 #[.slice (some ⟨wr.heap.size, 0, none⟩) 4 4, .string (strOfNums rs)]).run Tryz.prog (wr.alloc (.cells #[.int .u8 0, .int .u8 0, .int .u8 0, .int .u8 0] 52)) = .ok (.int .i64 3) w2 := hcp
        have htk := hide (show rs.take 4 = rs.take 3 ∧ (rs.take 3).length = 3 from ⟨by rw [List.take_of_length_le (by omega), List.take_of_length_le (by omega)], by rw [List.length_take]; omega⟩)
        have HG := hide (show Row .u8 52 w2 wr.heap.size (rs.take 3 ++ List.replicate (4 - 3) 0) from hg2)
        have HC2 := (row_cells HG.out).take (n := 3) (by rw [List.length_append, htk.out.2]; omega)
        rw [List.take_append_of_le_length (by rw [htk.out.2]; omega), List.take_take, Nat.min_self] at HC2
        have HF := hide (three_more (w := w2) (g := wr.heap.size) (cap := 4) (gs := rs.take 3) HC2 (fun x hx => HRb.out x (List.mem_of_mem_take hx)) (by rw [htk.out.2]; omega) (by rw [htk.out.2]; omega) (by rw [htk.out.2]; omega) (by omega))
        rw [htk.out.2, ← htk.out.1] at HF
        clear HC2
        have HB2 := hide hb2
        clear hg2 hb2 HG
        have ct := HCt.out 3
        rw [hsr] at ct
        rw [hN1] at hlt1 hsr ct
        go_wp2_with fail
        refine (HF.out).mono ?_
        rintro e w3 ⟨⟨a, b, c, ka, kb, kc, hsix, rfl⟩ | ⟨hno, rfl⟩, k3⟩
        · have HB3 := hide (HB2.out.trans (k3.mono HB2.out.size))
          clear k3 HB2 HF
          have hsix : SixOf (rs.take 4) [a, b] := by have h := hsix; rw [htk.out.1, htk.out.2] at h; rw [htk.out.1]; exact h
          obtain ⟨t1, t2, t3, t4, t5, t6, t7⟩ := HT.out
          have HN := hide (brd_on t1 t2 t3 t4 hne.out t5 hsix (fun hd => absurd (List.drop_eq_nil_of_le (by omega)) hd))
          have HO3 := hide (t6.keeps (bbel_y HB3.out (al_b w3 (.cells #[.int .u8 a, .int .u8 b, .int .u8 c] 53))))
          have HC3 := hide ((row_cells (show Row .u8 53 (w3.alloc (.cells #[.int .u8 a, .int .u8 b, .int .u8 c] 53)) w3.heap.size [a, b, c] from heap_alloc_new _ _)).take (n := 2) (by simp))
          have hs3 := hide (show w.heap.size ≤ w3.heap.size from Nat.le_trans t7.size HB3.out.size)
          have HT7 := hide t7
          have hroom := hide (show [a, b].length ≤ rest.length from yroom HCC.out HD.out.2 (rs.length) (t4 hne.out) t1 (by omega) (by simp))
          clear t1 t2 t3 t4 t5 t6 t7 hsix
          go_wp2_with (at_builtin; refine wpList_append_row rfl _ _ 39 rfl Tryz.underlying39 Tryz.infoY8 w.heap.size D C ds rest [a, b] _ _ rfl HD.out.1 HD.out.2 HO3.out rfl HC3.out (by simp) hroom.out ?_)
          intro w5 hrow5 hgrow
          have HO5 := hide (show Row .u8 5 w5 w.heap.size ((ds ++ [a, b]) ++ rest.drop [a, b].length) by simpa using hrow5)
          have HB5 := hide (ygrow (b4_keep (w1 := w) (g := 0) HT7.out (HB3.out.alloc HB3.out.size _)) (by have := hs3.out; simp; omega) hgrow)
          clear hrow5 hgrow
          go_wp2
          go_roundw
          case rel => exact ⟨k + 1, D + [a, b].length, rs.drop 4, ds ++ [a, b], rest.drop [a, b].length, rfl, by rw [List.drop_eq_nil_of_le (show rs.length ≤ 4 by omega)]; rfl, by rw [List.length_drop]; omega, by have := hroom.out; have := HD.out; simp at *; omega, hide ⟨by rw [List.length_append, HD.out.1], ylen HD.out.2 hroom.out⟩, hide (fun x hx => HRb.out x (List.mem_of_mem_drop hx)), hide ⟨HN.out.1, HN.out.2.1, HN.out.2.2.1, HN.out.2.2.2.1, HN.out.2.2.2.2, HO5.out, HB5.out⟩⟩
          case measure => simp [lenOf', strOfNums_size]; omega
        · have HB3 := hide (HB2.out.trans (k3.mono HB2.out.size))
          have HN := hide (brd_bad HT.out.1 hno)
          have HB5 := hide (b4_keep (w1 := w) (g := 0) HT.out.2.2.2.2.2.2 (HB3.out.alloc HB3.out.size (.cells #[.int .u8 0, .int .u8 0, .int .u8 0] 53)))
          clear k3 HB2 HF hno
          go_wp2
          go_ret2
          exact ⟨.inr ⟨HN.out, rfl⟩, HB5.out⟩
      · obtain ⟨w2, hcp, hg2, hb2⟩ := copy_text (wr := wr) (n := 4) (m := 4) (rs := rs) 52 HRb.out (by show 4 = min rs.length 4; omega)
        have hcp : (Builtin.copy_ #[39, 9] 3 #[.slice (some ⟨wr.heap.size, 0, none⟩) 4 4, .string (strOfNums rs)]).run Tryz.prog (wr.alloc (.cells #[.int .u8 0, .int .u8 0, .int .u8 0, .int .u8 0] 52)) = .ok (.int .i64 4) w2 := hcp
        have htk := hide (show rs.take 4 = rs.take 4 ∧ (rs.take 4).length = 4 from ⟨rfl, by rw [List.length_take]; omega⟩)
        have HG := hide (show Row .u8 52 w2 wr.heap.size (rs.take 4 ++ List.replicate (4 - 4) 0) from hg2)
        have HC2 := (row_cells HG.out).take (n := 4) (by rw [List.length_append, htk.out.2]; omega)
        rw [List.take_append_of_le_length (by rw [htk.out.2]; omega), List.take_take, Nat.min_self] at HC2
        have HF := hide (three_more (w := w2) (g := wr.heap.size) (cap := 4) (gs := rs.take 4) HC2 (fun x hx => HRb.out x (List.mem_of_mem_take hx)) (by rw [htk.out.2]; omega) (by rw [htk.out.2]; omega) (by rw [htk.out.2]; omega) (by omega))
        rw [htk.out.2, ← htk.out.1] at HF
        clear HC2
        have HB2 := hide hb2
        clear hg2 hb2 HG
        have ct := HCt.out 4
        rw [hsr] at ct
        go_wp2_with fail
        refine (HF.out).mono ?_
        rintro e w3 ⟨⟨a, b, c, ka, kb, kc, hsix, rfl⟩ | ⟨hno, rfl⟩, k3⟩
        · have HB3 := hide (HB2.out.trans (k3.mono HB2.out.size))
          clear k3 HB2 HF
          have hsix : SixOf (rs.take 4) [a, b, c] := by have h := hsix; rw [show (rs.take 4).length = 4 by rw [List.length_take]; omega] at h; exact h
          obtain ⟨t1, t2, t3, t4, t5, t6, t7⟩ := HT.out
          have HN := hide (brd_on t1 t2 t3 t4 hne.out t5 hsix (fun hd => rfl))
          have HO3 := hide (t6.keeps (bbel_y HB3.out (al_b w3 (.cells #[.int .u8 a, .int .u8 b, .int .u8 c] 53))))
          have HC3 := hide ((row_cells (show Row .u8 53 (w3.alloc (.cells #[.int .u8 a, .int .u8 b, .int .u8 c] 53)) w3.heap.size [a, b, c] from heap_alloc_new _ _)).take (n := 3) (by simp))
          have hs3 := hide (show w.heap.size ≤ w3.heap.size from Nat.le_trans t7.size HB3.out.size)
          have HT7 := hide t7
          have hroom := hide (show [a, b, c].length ≤ rest.length from yroom HCC.out HD.out.2 (rs.length) (t4 hne.out) t1 (by omega) (by simp))
          clear t1 t2 t3 t4 t5 t6 t7 hsix
          go_wp2_with (at_builtin; refine wpList_append_row rfl _ _ 39 rfl Tryz.underlying39 Tryz.infoY8 w.heap.size D C ds rest [a, b, c] _ _ rfl HD.out.1 HD.out.2 HO3.out rfl HC3.out (by simp) hroom.out ?_)
          intro w5 hrow5 hgrow
          have HO5 := hide (show Row .u8 5 w5 w.heap.size ((ds ++ [a, b, c]) ++ rest.drop [a, b, c].length) by simpa using hrow5)
          have HB5 := hide (ygrow (b4_keep (w1 := w) (g := 0) HT7.out (HB3.out.alloc HB3.out.size _)) (by have := hs3.out; simp; omega) hgrow)
          clear hrow5 hgrow
          go_wp2
          go_roundw
          case rel => exact ⟨k + 1, D + [a, b, c].length, rs.drop 4, ds ++ [a, b, c], rest.drop [a, b, c].length, rfl, rfl, by rw [List.length_drop]; omega, by have := hroom.out; have := HD.out; simp at *; omega, hide ⟨by rw [List.length_append, HD.out.1], ylen HD.out.2 hroom.out⟩, hide (fun x hx => HRb.out x (List.mem_of_mem_drop hx)), hide ⟨HN.out.1, HN.out.2.1, HN.out.2.2.1, HN.out.2.2.2.1, HN.out.2.2.2.2, HO5.out, HB5.out⟩⟩
          case measure => simp [lenOf', strOfNums_size]; omega
        · have HB3 := hide (HB2.out.trans (k3.mono HB2.out.size))
          have HN := hide (brd_bad HT.out.1 hno)
          have HB5 := hide (b4_keep (w1 := w) (g := 0) HT.out.2.2.2.2.2.2 (HB3.out.alloc HB3.out.size (.cells #[.int .u8 0, .int .u8 0, .int .u8 0] 53)))
          clear k3 HB2 HF hno
          go_wp2
          go_ret2
          exact ⟨.inr ⟨HN.out, rfl⟩, HB5.out⟩
    · have e : rs = [] := List.eq_nil_of_length_eq_zero (by omega)
      subst e
      have e2 := HT.out.2.1
      rw [List.append_nil] at e2
      have H2 := hide (And.intro HT.out.2.2.1 e2)
      have HO := hide HT.out.2.2.2.2.2.1
      have HB := hide HT.out.2.2.2.2.2.2
      clear e2
      go_wp2
      go_ret2
      obtain ⟨d1, d2⟩ := HD.out
      subst d1
      exact ⟨.inl ⟨w.heap.size, C, ds, rest, H2.out, rfl, Nat.le_refl _, HO.out, d2, by unfold maxLen; omega⟩, HB.out⟩

end Go.Proofs.YtlpddfocihlbcaaGreatDoor
