/- there, Len, New, Take -/
import Derived.Test.YtomieeajmelglaaOSink
namespace Go.Proofs.Ytomieeajmelglaa
open Go.RowKit Go.Shelf
set_option linter.unusedVariables false
set_option linter.unusedSimpArgs false

theorem ofunc_nil2 {t : TypeId} (h : ∃ a b c, Try.prog.underlying t = some (.func a b c)) (w : World) (f : Fn) (a c : Array Value) : (binOp .neq t (.func f a c) .nilFunc).run Try.prog w = .ok (.bool true) w := by
  obtain ⟨x, y, z, h⟩ := h
  have e : (Op.equalIn (Op.maxDepth - 1 + 1) t (.func f a c) .nilFunc).run Try.prog w = .ok false w := by simp [Op.equalIn, run_underlying h]
  rw [show Op.maxDepth - 1 + 1 = Op.maxDepth from rfl] at e
  simp [binOp, Op.equal, e]

set_option maxRecDepth 100000 in
set_option maxHeartbeats 2000000 in
theorem there_any {w : World} {B g : Nat} {cl : Array Value} (hb : w.cell? ⟨B, 0, none⟩ = some (.func (.func g) #[] cl)) : Calls Try.prog 47 #[.pointer (some ⟨B, 0, none⟩)] w fun e w' => e = .returned (.bool true) ∧ w' = w := by
  have hfn : ∀ (w : World) f a c, (binOp .neq 28 (.func f a c) .nilFunc).run Try.prog w = .ok (.bool true) w := ofunc_nil2 itdesc
  go_enter Try.func47, Try.ntmps47
  go_wp2
  go_ret
  exact ⟨rfl, rfl⟩

set_option maxRecDepth 100000 in
set_option maxHeartbeats 2000000 in
theorem len_any {w : World} {B g n cap : Nat} {ao : Option Addr} {cl : Array Value} {came : Int} (h : BagAt w B (.func (.func g) #[] cl) came (.slice ao n cap)) (hn : n ≤ 1099511627776) : Calls Try.prog 32 #[.pointer (some ⟨B, 0, none⟩)] w fun e w' => e = .returned (.int .i64 n) ∧ w' = w := by
  obtain ⟨c0, c1, c2⟩ := h.cells
  go_enter Try.func32, Try.ntmps32
  go_wp2_with fail
  refine (there_any c0).mono ?_
  rintro e w' ⟨rfl, rfl⟩
  go_wp2
  go_ret
  exact ⟨rfl, rfl⟩

set_option maxRecDepth 100000 in
set_option maxHeartbeats 2000000 in
theorem new_any {w : World} {g : Nat} {cl : Array Value} : Calls Try.prog 29 #[.func (.func g) #[] cl] w fun e w' => e = .returned (.pointer (some ⟨w.heap.size, 0, none⟩)) ∧ BagAt w' w.heap.size (.func (.func g) #[] cl) 0 (.slice none 0 0) ∧ Below w.heap.size w w' ∧ w'.heap.size = w.heap.size + 1 := by
  have hfn : ∀ (w : World) f a c, (binOp .eql 28 (.func f a c) .nilFunc).run Try.prog w = .ok (.bool false) w := ofunc_nil itdesc
  go_enter Try.func29, Try.ntmps29
  go_wp2
  go_ret
  exact ⟨rfl, heap_alloc_new w _, (Below.refl _ w).alloc (Nat.le_refl _) _, by simp⟩

theorem bag_ne {base : Nat} {w : World} {B g cap n : Nat} {cv hv : Value} {came : Int} {hs : List Hi} (h : BagAt w B cv came hv) (hr : HpRow base w (.slice (some ⟨g, 0, none⟩) n cap) hs) : B ≠ g := by
  rintro rfl
  rcases hr.2 with ⟨e, _⟩ | ⟨g', cap', cur, e, _, hg, _⟩
  · cases e
  · cases e
    rw [show w.heap[B]? = _ from h] at hg
    injection hg with hg
    injection hg with _ hg
    cases hg
theorem HpRow.keepx {X : Nat → Prop} {base m : Nat} {w w' : World} {g cap n : Nat} {hs : List Hi} (h : HpRow base w (.slice (some ⟨g, 0, none⟩) n cap) hs) (hb : BelX X m w w') (hg : g < m) (hx : ¬ X g) : HpRow base w' (.slice (some ⟨g, 0, none⟩) n cap) hs := by
  rcases h.2 with ⟨e, _⟩ | ⟨g', cap', cur, e, hbs, hgg, r⟩
  · cases e
  · cases e
    exact ⟨h.1, .inr ⟨g, cap, cur, rfl, hbs, (hb.block g hg hx).trans hgg, r⟩⟩
theorem HpRow.cut {base : Nat} {w : World} {g cap n : Nat} {hs : List Hi} (hn : hs.length = n) (h : HpRow base w (.slice (some ⟨g, 0, none⟩) n cap) hs) {k : Nat} (hk : k ≤ n) : HpRow base w (.slice (some ⟨g, 0, none⟩) k cap) (hs.take k) := by
  subst hn
  rcases h.2 with ⟨e, _⟩ | ⟨g', cap', cur, e, hbs, hgg, h1, h2, h3, h4⟩
  · cases e
  · cases e
    have hl : (hs.take k).length = k := by rw [List.length_take]; omega
    refine ⟨by rw [flat3_len], .inr ⟨g, cap, cur, by rw [hl], hbs, hgg, by omega, h2, h3, ?_⟩⟩
    rw [hl, flat3_take, ← h4, List.take_take]
    congr 1
    omega
theorem BagAt.set2 {w : World} {B : Nat} {cv hv : Value} {came : Int} (h : BagAt w B cv came hv) (v : Value) : BagAt (w.setCell ⟨B, 2, none⟩ v) B cv came v := by
  unfold BagAt
  rw [heap_setCell_same w B 2 _ _ _ h]
  simp
theorem BagAt.set1 {w : World} {B : Nat} {cv hv : Value} {came : Int} (h : BagAt w B cv came hv) (c : Int) : BagAt (w.setCell ⟨B, 1, none⟩ (.int .i64 c)) B cv c hv := by
  unfold BagAt
  rw [heap_setCell_same w B 1 _ _ _ h]
  simp
/-- what is left when the least is taken -/
def tkF (f : It → It → Int) (hs : List Hi) : List Hi := sinkF (ahF f) ((hs.set 0 (hAt hs (hs.length - 1))).take (hs.length - 1)) 0

set_option maxRecDepth 100000 in
set_option maxHeartbeats 16000000 in
theorem take_any {w : World} {base B g cap n : Nat} {cv : Value} {came : Int} {hs : List Hi} {f : It → It → Int} {I : World → Prop} (hbag : BagAt w B cv came (.slice (some ⟨g, 0, none⟩) n cap)) (hrow : HpRow base w (.slice (some ⟨g, 0, none⟩) n cap) hs) (hg : g < w.heap.size) (hn : hs.length = n) (hn1 : 1 ≤ n) (hn2 : n ≤ 1099511627776) (hcap : n ≤ cap) (hcm : cap ≤ maxLen) (hc : CmpIs I cv f) (hI : ∀ W, BelX (fun k => k = g ∨ k = B) w.heap.size w W → I W) :
    Calls Try.prog 38 #[.pointer (some ⟨B, 0, none⟩)] w fun e w' => e = .returned (.tuple #[itV (hAt hs 0).1, .bool true]) ∧ BagAt w' B cv came (.slice (some ⟨g, 0, none⟩) (n - 1) cap) ∧ HpRow base w' (.slice (some ⟨g, 0, none⟩) (n - 1) cap) (tkF f hs) ∧ BelX (fun k => k = g ∨ k = B) w.heap.size w w' := by
  obtain ⟨cg, cl, rfl, eg, hcall⟩ := hc.val
  have hne := bag_ne hbag hrow
  have hBl := hbag.lt
  unfold maxLen at hcm
  obtain ⟨⟨⟨x1, x2⟩, x3⟩, hx⟩ : ∃ x, hAt hs 0 = x := ⟨_, rfl⟩
  obtain ⟨⟨⟨y1, y2⟩, y3⟩, hy⟩ : ∃ x, hAt hs (n - 1) = x := ⟨_, rfl⟩
  have cx := hrow.cell hn (i := 0) (by omega)
  have cy := hrow.cell hn (i := n - 1) (by omega)
  rw [← hAt_eq (by omega), hx] at cx
  rw [← hAt_eq (by omega), hy] at cy
  obtain ⟨c0, c1, c2⟩ := hbag.cells
  obtain ⟨m, hm⟩ : ∃ m, n - 1 = m := ⟨_, rfl⟩
  rw [hm] at cy hy
  have q0 : ((n : Int) == 0) = false := by rw [beq_eq_false_iff_ne]; omega
  have e1 : IntKind.i64.wrap ((n : Int) - 1) = (m : Int) := by rw [IntKind.wrap_i64]; omega
  have HL := hide (fun (U : World) (h : BagAt U B (.func (.func cg) #[] cl) came (.slice (some ⟨g, 0, none⟩) n cap)) => len_any h hn2)
  have b0 : BagAt (w.alloc (.cells #[.int .i64 0, .int .i64 0] 27)) B (.func (.func cg) #[] cl) came (.slice (some ⟨g, 0, none⟩) n cap) := hbag.keep (Below.heap_alloc _ _ _ hBl)
  have HB0 := hide b0
  rw [hm]
  simp at cx
  clear b0 hcall
  go_enter Try.func38, Try.ntmps38
  go_wp2_with fail
  refine (HL.out _ HB0.out).mono ?_
  rintro e w' ⟨rfl, rfl⟩
  obtain ⟨W1, hW1⟩ : ∃ u, w.alloc (.cells #[.int .i64 0, .int .i64 0] 27) = u := ⟨_, rfl⟩
  have K1 : Below w.heap.size w W1 := by rw [← hW1]; exact (Below.refl _ w).alloc (Nat.le_refl _) _
  have hs1 : W1.heap.size = w.heap.size + 1 := by rw [← hW1]; simp
  have HR1 : Hid (W1.heap[w.heap.size]? = some (.cells #[.int .i64 0, .int .i64 0] 27 (0, 0))) := hide (by rw [← hW1]; exact heap_alloc_new w _)
  have d0 := (K1.cell (p := ⟨B, 0, none⟩) hBl).trans c0
  have d2 := (K1.cell (p := ⟨B, 2, none⟩) hBl).trans c2
  have g0 := (K1.cell (p := ⟨g, 0, none⟩) hg).trans cx.1
  have g1 := (K1.cell (p := ⟨g, 1, none⟩) hg).trans cx.2.1
  have g2 := (K1.cell (p := ⟨g, 2, none⟩) hg).trans cx.2.2
  have A2 : ∀ o, (W1.alloc o).cell? ⟨B, 2, none⟩ = some (.slice (some ⟨g, 0, none⟩) n cap) := fun o => (World.cell?_of_block (a := ⟨B, 2, none⟩) (Below.heap_alloc W1 o B (by omega))).trans d2
  have G0 : ∀ o, (W1.alloc o).cell? ⟨g, 0, none⟩ = some (.int .i64 x1) := fun o => (World.cell?_of_block (a := ⟨g, 0, none⟩) (Below.heap_alloc W1 o g (by omega))).trans g0
  have G1 : ∀ o, (W1.alloc o).cell? ⟨g, 1, none⟩ = some (.int .i64 x2) := fun o => (World.cell?_of_block (a := ⟨g, 1, none⟩) (Below.heap_alloc W1 o g (by omega))).trans g1
  have G2 : ∀ o, (W1.alloc o).cell? ⟨g, 2, none⟩ = some (.int .i64 x3) := fun o => (World.cell?_of_block (a := ⟨g, 2, none⟩) (Below.heap_alloc W1 o g (by omega))).trans g2
  have hn0 : 0 < n := hn1
  have HS1 := hide hs1
  have HBAG := hide hbag
  have HROW := hide hrow
  have HCX := hide cx
  have HCY := hide cy
  have HK1 := hide K1
  rw [hW1]
  clear hW1 c0 c1 c2 cx cy K1 hs1 hbag hrow HL HB0
  go_wp2
  go_region
  go_wp2
  obtain ⟨W2, hW2⟩ : ∃ u, (W1.alloc (.cells #[.int .i64 x1, .int .i64 x2, .int .i64 x3] 69)).drew = u := ⟨_, rfl⟩
  have K2 : Below W1.heap.size W1 W2 := by rw [← hW2]; exact ((Below.refl _ W1).alloc (Nat.le_refl _) _).drew
  have HK2 : Hid (Below w.heap.size w W2) := hide (HK1.out.trans (K2.mono HK1.out.size))
  have HS2 : Hid (W2.heap.size = w.heap.size + 2) := hide (by rw [← hW2]; have := HS1.out; show (W1.alloc _).heap.size = _; simp; omega)
  have HF2 : Hid (W2.heap[W1.heap.size]? = some (.cells #[.int .i64 x1, .int .i64 x2, .int .i64 x3] 69 (0, 0))) := hide (by rw [← hW2]; exact heap_alloc_new W1 _)
  have HR2 : Hid (W2.heap[w.heap.size]? = some (.cells #[.int .i64 0, .int .i64 0] 27 (0, 0))) := hide ((K2.block _ (by have := HS1.out; omega)).trans HR1.out)
  have HBG2 : Hid (BagAt W2 B (.func (.func cg) #[] cl) came (.slice (some ⟨g, 0, none⟩) n cap)) := hide (HBAG.out.keep (HK2.out.block _ hBl))
  have HRW2 : Hid (HpRow base W2 (.slice (some ⟨g, 0, none⟩) n cap) hs) := hide (HROW.out.kept (ograwn HK2.out) (.inr (by simp [Value.ownBlock])))
  have c2 := HBG2.out.cells.2.2
  have g0' := (HK2.out.cell (p := ⟨g, 0, none⟩) hg).trans HCX.out.1
  have g1' := (HK2.out.cell (p := ⟨g, 1, none⟩) hg).trans HCX.out.2.1
  have g2' := (HK2.out.cell (p := ⟨g, 2, none⟩) hg).trans HCX.out.2.2
  have l0 := (HK2.out.cell (p := ⟨g, _, none⟩) hg).trans HCY.out.1
  have l1 := (HK2.out.cell (p := ⟨g, _, none⟩) hg).trans HCY.out.2.1
  have l2 := (HK2.out.cell (p := ⟨g, _, none⟩) hg).trans HCY.out.2.2
  have FZ2 := hide (fun i => World.ownsRow.frozenAt (show W2.ownsRow base 69 3 (.slice (some ⟨g, 0, none⟩) n cap) n (flat3 hs) by have := HRW2.out; unfold HpRow at this; rw [hn] at this; exact this) i)
  have z0 := FZ2.out 0
  have z1 := FZ2.out 1
  have z2 := FZ2.out 2
  have q2 : (m : Int) < (n : Int) := by omega
  have HW12 := hide (show W1.heap.size = w.heap.size + 1 from HS1.out)
  rw [hW2]
  clear hW2 A2 G0 G1 G2 d0 d2 g0 g1 g2 K2
  go_region
  obtain ⟨W3, hW3⟩ : ∃ u, (((W2.setCell ⟨g, 0, none⟩ (.int .i64 y1)).setCell ⟨g, 1, none⟩ (.int .i64 y2)).setCell ⟨g, 2, none⟩ (.int .i64 y3)).drew = u := ⟨_, rfl⟩
  have hXg : (fun k => k = g ∨ k = B) g := .inl rfl
  have hXB : (fun k => k = g ∨ k = B) B := .inr rfl
  have HK3 : Hid (BelX (fun k => k = g ∨ k = B) W2.heap.size W2 W3) := hide (by rw [← hW3]; exact (((belx_set _ _ hXg).trans (belx_set _ _ hXg)).trans (belx_set _ _ hXg)).drew)
  have HRW3 : Hid (HpRow base W3 (.slice (some ⟨g, 0, none⟩) n cap) (hs.set 0 ((y1, y2), y3))) := hide (by rw [← hW3]; exact (HRW2.out.set hn (i := 0) hn0 ((y1, y2), y3)).drew)
  have HX3 : Hid (BelX (fun k => k = g) W2.heap.size W2 W3) := hide (by
    rw [← hW3]
    exact (((belx_set (X := fun k => k = g) _ _ rfl).trans (belx_set (X := fun k => k = g) _ _ rfl)).trans (belx_set (X := fun k => k = g) _ _ rfl)).drew)
  have hs3 : W3.heap.size = W2.heap.size := by rw [← hW3]; show (World.setCell _ _ _).heap.size = _; simp
  have HBG3 : Hid (BagAt W3 B (.func (.func cg) #[] cl) came (.slice (some ⟨g, 0, none⟩) n cap)) := hide (HBG2.out.keep (HX3.out.block _ (by have := HS2.out; omega) hne))
  have hl3 : (hs.set 0 ((y1, y2), y3)).length = n := by rw [List.length_set]; exact hn
  have hmn : m < n := by omega
  have t0 := HRW3.out.cell hl3 hmn
  have FZ3 := hide (fun i => World.ownsRow.frozenAt (show W3.ownsRow base 69 3 (.slice (some ⟨g, 0, none⟩) n cap) n (flat3 (hs.set 0 ((y1, y2), y3))) by have := HRW3.out; unfold HpRow at this; rw [hl3] at this; exact this) i)
  obtain ⟨t0, t1, t2⟩ := t0
  have f0 := FZ3.out (m * 3)
  have f1 := FZ3.out (m * 3 + 1)
  have f2 := FZ3.out (m * 3 + 2)
  obtain ⟨b0, b1, b2⟩ := HBG3.out.cells
  have fb := HBG3.out.frozen 2
  obtain ⟨W4, hW4⟩ : ∃ u, ((W3.setCell ⟨g, m * 3, none⟩ (.int .i64 0)).setCell ⟨g, m * 3 + 1, none⟩ (.int .i64 0)).setCell ⟨g, m * 3 + 2, none⟩ (.int .i64 0) = u := ⟨_, rfl⟩
  have HRW4 : Hid (HpRow base W4 (.slice (some ⟨g, 0, none⟩) n cap) ((hs.set 0 ((y1, y2), y3)).set m ((0, 0), 0))) := hide (by rw [← hW4]; exact HRW3.out.set hl3 hmn ((0, 0), 0))
  have HX4 : Hid (BelX (fun k => k = g) W2.heap.size W3 W4) := hide (by
    rw [← hW4]
    exact ((belx_set (X := fun k => k = g) _ _ rfl).trans (belx_set (X := fun k => k = g) _ _ rfl)).trans (belx_set (X := fun k => k = g) _ _ rfl))
  have hs4 : W4.heap.size = W3.heap.size := by rw [← hW4]; simp
  have HBG4 : Hid (BagAt W4 B (.func (.func cg) #[] cl) came (.slice (some ⟨g, 0, none⟩) n cap)) := hide (HBG3.out.keep (HX4.out.block _ (by have := HS2.out; omega) hne))
  obtain ⟨W5, hW5⟩ : ∃ u, W4.setCell ⟨B, 2, none⟩ (.slice (some ⟨g, 0, none⟩) m cap) = u := ⟨_, rfl⟩
  have HBG5 : Hid (BagAt W5 B (.func (.func cg) #[] cl) came (.slice (some ⟨g, 0, none⟩) m cap)) := hide (by rw [← hW5]; exact HBG4.out.set2 _)
  have hs5 : W5.heap.size = W4.heap.size := by rw [← hW5]; simp
  have hX5 : BelX (fun k => k = B) W2.heap.size W4 W5 := by
    rw [← hW5]
    exact belx_set (X := fun k => k = B) _ _ rfl
  have h2 := HS2.out
  have HRW5 : Hid (HpRow base W5 (.slice (some ⟨g, 0, none⟩) m cap) ((hs.set 0 ((y1, y2), y3)).take m)) := hide (by
    have := (HRW4.out.keepx hX5 (by omega) (fun e => hne e.symm)).cut (by rw [List.length_set]; exact hl3) (k := m) (by omega)
    rw [List.take_set_of_le (Nat.le_refl _)] at this
    exact this)
  have HX25 : Hid (BelX (fun k => k = g ∨ k = B) W2.heap.size W2 W5) := hide ((HX3.out.mono (Nat.le_refl _) (fun _ _ h => .inl h)).trans ((HX4.out.mono (Nat.le_refl _) (fun _ _ h => .inl h)).trans (hX5.mono (Nat.le_refl _) (fun _ _ h => .inr h))))
  have HX5 : Hid (BelX (fun k => k = g ∨ k = B) w.heap.size w W5) := hide ((BelX.of HK2.out (Nat.le_refl _)).trans (HX25.out.mono (by omega) (fun _ _ h => h)))
  have hl5 : ((hs.set 0 ((y1, y2), y3)).take m).length = m := by rw [List.length_take, hl3]; omega
  have SK := hide (sink_any (w := W5) (I := I) HBG5.out.cells.1 HBG5.out.lt hne (by omega) HRW5.out hl5 (by omega) hc (fun W k => hI W (HX5.out.trans (k.mono (by omega) (fun _ _ h => .inl h)))))
  have HTK : Hid (tkF f hs = sinkF (ahF f) ((hs.set 0 ((y1, y2), y3)).take m) 0) := hide (by rw [tkF, hn, hm, hy])
  have HSZ := hide (show W5.heap.size = w.heap.size + 2 by omega)
  have HF5 : Hid (W5.heap[W1.heap.size]? = some (.cells #[.int .i64 x1, .int .i64 x2, .int .i64 x3] 69 (0, 0))) := hide ((HX25.out.block _ (by have := HW12.out; omega) (by have := HW12.out; omega)).trans HF2.out)
  have HR5 : Hid (W5.heap[w.heap.size]? = some (.cells #[.int .i64 0, .int .i64 0] 27 (0, 0))) := hide ((HX25.out.block _ (by omega) (by omega)).trans HR2.out)
  have hmc : m ≤ cap := by omega
  have q3 : (m : Int) ≤ (cap : Int) := by omega
  have j2 := HBG4.out.cells.2.2
  have jf := HBG4.out.frozen 2
  have k2 := HBG5.out.cells.2.2
  rw [hW3]
  clear hW3 c2 g0' g1' g2' l0 l1 l2 z0 z1 z2 hs3 hs4 hs5 hX5 h2 hl5
  go_wp2_with fail
  refine SK.out.mono ?_
  rintro e w6 ⟨rfl, hr6, hx6⟩
  have hsz := HSZ.out
  have hw1 := HW12.out
  have HBG6 : Hid (BagAt w6 B (.func (.func cg) #[] cl) came (.slice (some ⟨g, 0, none⟩) m cap)) := hide (HBG5.out.keep (hx6.block _ HBG5.out.lt hne))
  have F6 := (hx6.block W1.heap.size (by omega) (by omega)).trans HF5.out
  have R6 := (hx6.block w.heap.size (by omega) (by omega)).trans HR5.out
  have p0 := cell_of_row w6 _ 0 _ _ _ F6
  have p1 := cell_of_row w6 _ 1 _ _ _ F6
  have r0 := cell_of_row w6 _ 0 _ _ _ R6
  have r1 := cell_of_row w6 _ 1 _ _ _ R6
  have rf0 := frozen_of_row w6 _ 0 _ _ R6
  have rf1 := frozen_of_row w6 _ 1 _ _ R6
  simp at p0 p1 r0 r1
  have HX6 : Hid (BelX (fun k => k = g ∨ k = B) w.heap.size w w6) := hide (HX5.out.trans (hx6.mono (by omega) (fun _ _ h => .inl h)))
  have HR6 := hide hr6
  have HR6b := hide R6
  have HE6 : Hid (BelX (fun k => k = w.heap.size) w6.heap.size w6 ((w6.setCell ⟨w.heap.size, 0, none⟩ (.int .i64 x1)).setCell ⟨w.heap.size, 1, none⟩ (.int .i64 x2))) := hide ((belx_set (X := fun k => k = w.heap.size) _ _ rfl).trans (belx_set (X := fun k => k = w.heap.size) _ _ rfl))
  have hs6 := hx6.size
  clear hw1 hsz hr6 hx6 F6 R6 hW4 hW5 j2 jf k2 b0 b1 b2 fb t0 t1 t2 f0 f1 f2
  go_wp2
  obtain ⟨W7, hW7⟩ : ∃ u, (w6.setCell ⟨w.heap.size, 0, none⟩ (.int .i64 x1)).setCell ⟨w.heap.size, 1, none⟩ (.int .i64 x2) = u := ⟨_, rfl⟩
  have R7 : W7.heap[w.heap.size]? = some (.cells #[.int .i64 x1, .int .i64 x2] 27 (0, 0)) := by
    rw [← hW7, heap_setCell_same _ _ 1 _ _ _ (heap_setCell_same w6 _ 0 _ _ _ HR6b.out)]
    simp
  have s0 := cell_of_row W7 _ 0 _ _ _ R7
  have s1 := cell_of_row W7 _ 1 _ _ _ R7
  simp at s0 s1
  rw [hW7]
  have HE7 := HE6.out
  rw [hW7] at HE7
  have hgw : g ≠ w.heap.size := by omega
  have hBw : B ≠ w.heap.size := by omega
  refine bodyPost_ret (v := .tuple #[itV (x1, x2), .bool true]) (by simp [results, Try.results38, go_sem, s0, s1]) rfl ⟨by rw [hx], HBG6.out.keep (HE7.block _ HBG6.out.lt hBw), ?_, HX6.out.trans (HE7.mono (by have := HX6.out.size; omega) (fun k hk h => by omega))⟩
  rw [HTK.out]
  exact HR6.out.keepx HE7 (by have := HX6.out.size; omega) hgw

end Go.Proofs.Ytomieeajmelglaa
