/- OAdd, OCpy, OAllM, OLives, OAd2, OAd3 -/
import Derived.Test.YtboikfcmbfaaeaaR04
import Derived.Deep.RegionLaw
import Derived.Deep.AppendLies
import Derived.Maps.AppendAt
namespace Go.Proofs.Ytboikfcmbfaaeaa
open Go.RowKit Go.Shelf
set_option linter.unusedVariables false
set_option linter.unusedSimpArgs false

/-- append of one item of three cells, as one step of a region that draws its order -/
theorem step_append_hi {P : Program} {ops : Array Oper} {o : Oper} {a : Act} {w : World} {K : Act → World → Prop} {Q : Exit → Act → World → Prop} {E : Prop} (hgd : o.guard = none) (s x : Operand) (t : TypeId)
    (ho : o.op = .call { callee := .builtin .append, args := #[s, x], argTypes := #[t, t] })
    (base : Nat) (e : TypeId) (z : Value) (bytes : Nat) (ht : P.underlying t = some (.slice e)) (hinf : (P.info? e).map (fun i => (i.zero, i.size, i.bytes)) = some (some z, 3, bytes)) (hz3 : z.cells.size = 3)
    (v : Value) (n : Nat) (xs : List Value) (hs : a.eval s = v) (hown : w.ownsRow base e 3 v n xs) (g c : Nat) (cs : Array Value) (e' : TypeId) (hcs : cs.size = 3) (hx : a.eval x = .slice (some ⟨g, 0, none⟩) 1 c) (hblk : w.heap[g]? = some (.cells cs e' (0, 0)))
    (h1 : ∀ u ∈ cs.toList, u.oneCell' = true) (h63 : n + 1 ≤ maxLen) (hbytes : (n + 1) * bytes ≤ 140737488355328) (hbase : base ≤ w.heap.size)
    (h : ∀ g' cap' w', w'.ownsRow base e 3 (.slice (some ⟨g', 0, none⟩) (n + 1) cap') (n + 1) (xs ++ cs.toList) → w.grownBy w' v.ownBlock → K (a.put o.dst (.slice (some ⟨g', 0, none⟩) (n + 1) cap')) w') :
    if Region.wanted o (yielded ops a.tmps) = true then Oper.wp P o a w K Q else E := by
  have hw : Region.wanted o (yielded ops a.tmps) = true := by simp [Region.wanted, hgd]
  rw [if_pos hw]
  obtain ⟨i, hi, hz, hsz, hby⟩ := info_parts hinf
  exact wp_append_own w s x t ho base e i z 3 bytes ht hi hz hsz hby hz3 (by decide) v n xs hs hown ⟨g, 0, none⟩ 1 c cs.toList hx (by simpa using hcs) (World.news_of_block hblk) h1 h63 hbytes hbase fun v' w' h2 h3 _ => by
    rcases h2.2 with ⟨_, h⟩ | ⟨g', cap', cur, rfl, _⟩
    · omega
    · exact h g' cap' w' h2 h3
set_option maxRecDepth 100000 in
theorem hiInfo : (Try.prog.info? 48).map (fun i => (i.zero, i.size, i.bytes)) = some (some (.agg #[.int .i64 0, .int .i64 0, .int .i64 0]), 3, 24) := by kernel_rfl

def ad1 (f : It → It → Int) (st : List Hi × Int) (x : It) : List Hi × Int := (riseF (ahF f) (st.1 ++ [(x, st.2)]) st.1.length, st.2 + 1)
def adF (f : It → It → Int) (st : List Hi × Int) (l : List It) : List Hi × Int := l.foldl (ad1 f) st
theorem ad1_len (f : It → It → Int) (st : List Hi × Int) (x : It) : (ad1 f st x).1.length = st.1.length + 1 := by simp [ad1, riseF_len]
/-- a bag as it lies -/
def BagIs (base : Nat) (w : World) (B : Nat) (cv : Value) (st : List Hi × Int) : Prop := ∃ hv, BagAt w B cv st.2 hv ∧ HpRow base w hv st.1
theorem hv_ne {base : Nat} {w : World} {B : Nat} {cv hv hv2 : Value} {came : Int} {hs : List Hi} (h : BagAt w B cv came hv2) (hr : HpRow base w hv hs) : hv.ownBlock ≠ some B := by
  rcases hr.2 with ⟨e, _⟩ | ⟨g', cap', cur, e, _, hg, _⟩
  · rw [e]; simp [Value.ownBlock]
  · rw [e]
    intro h2
    have e2 : g' = B := by simpa [Value.ownBlock] using h2
    rw [e2, show w.heap[B]? = _ from h] at hg
    injection hg with hg
    injection hg with _ hg
    cases hg
theorem BagAt.grown {w w' : World} {B : Nat} {cv hv : Value} {came : Int} {r : Option Nat} (h : BagAt w B cv came hv) (hg : w.grownBy w' r) (hne : r ≠ some B) : BagAt w' B cv came hv := h.keep (hg.block B h.lt (fun e => hne e.symm))

theorem add_mem {base : Nat} {w W1 w4 : World} {B g' cap' : Nat} {cv hv : Value} {came : Int} {hs : List Hi} {x : It} {o : Obj} (hb : base ≤ B) (hB : Below base w W1) (hbw : base ≤ W1.heap.size) (hr1 : HpRow base W1 hv hs) (hQ : BagAt w4 B cv came hv)
    (hown : w4.ownsRow base 48 3 (.slice (some ⟨g', 0, none⟩) (hs.length + 1) cap') (hs.length + 1) (flat3 hs ++ [.int .i64 x.1, .int .i64 x.2, .int .i64 came])) (hg : (W1.alloc o).drew.grownBy w4 hv.ownBlock) :
    BagAt ((w4.setCell ⟨B, 2, none⟩ (.slice (some ⟨g', 0, none⟩) (hs.length + 1) cap')).setCell ⟨B, 1, none⟩ (.int .i64 (came + 1))) B cv (came + 1) (.slice (some ⟨g', 0, none⟩) (hs.length + 1) cap') ∧
    HpRow base ((w4.setCell ⟨B, 2, none⟩ (.slice (some ⟨g', 0, none⟩) (hs.length + 1) cap')).setCell ⟨B, 1, none⟩ (.int .i64 (came + 1))) (.slice (some ⟨g', 0, none⟩) (hs.length + 1) cap') (hs ++ [(x, came)]) ∧
    Below base w ((w4.setCell ⟨B, 2, none⟩ (.slice (some ⟨g', 0, none⟩) (hs.length + 1) cap')).setCell ⟨B, 1, none⟩ (.int .i64 (came + 1))) ∧ base ≤ g' ∧ g' < w4.heap.size ∧ B ≠ g' := by
  have hr4 : HpRow base w4 (.slice (some ⟨g', 0, none⟩) (hs.length + 1) cap') (hs ++ [(x, came)]) := by
    unfold HpRow
    rw [flat3_append, List.length_append]
    exact hown
  have hne := bag_ne hQ hr4
  have hlt := World.ownsRow.lt hown g' rfl
  have b4 : Below base w w4 := by
    have h2 : Below base w (W1.alloc o).drew := (hB.trans (((Below.refl W1.heap.size W1).alloc (Nat.le_refl _) o).mono hbw)).drew
    exact h2.grown hg (by show base ≤ (W1.alloc o).heap.size; simp; omega) (fun k e => (World.ownsRow.lt hr1 k e).1)
  have g2 := grown_set2 w4 B 2 (.slice (some ⟨g', 0, none⟩) (hs.length + 1) cap')
  have g3 := grown_set2 (w4.setCell ⟨B, 2, none⟩ (.slice (some ⟨g', 0, none⟩) (hs.length + 1) cap')) B 1 (.int .i64 (came + 1))
  refine ⟨(hQ.set2 _).set1 _, ?_, (b4.setCell (p := ⟨B, 2, none⟩) hb _).setCell (p := ⟨B, 1, none⟩) hb _, hlt.1, hlt.2, hne⟩
  have hk : HpRow base _ _ _ := World.ownsRow.kept (World.ownsRow.kept hr4 g2 (.inr (by simp [Value.ownBlock]; exact fun e => hne e.symm))) g3 (.inr (by simp [Value.ownBlock]; exact fun e => hne e.symm))
  exact hk

set_option maxRecDepth 100000 in
set_option maxHeartbeats 16000000 in
theorem add_any {w : World} {base B : Nat} {va cv : Value} {st : List Hi × Int} {l : List It} {f : It → It → Int} {I : World → Prop} (hbag : BagIs base w B cv st) (hb : base ≤ B) (ha : ItRd (fun g => g < base) w va l) (h1 : st.1.length + l.length ≤ 1099511627776) (h2 : 0 ≤ st.2) (h3 : st.2 ≤ 1099511627776) (hc : CmpIs I cv f) (hI : ∀ W, Below base w W → I W) :
    Calls Try.prog 7 #[.pointer (some ⟨B, 0, none⟩), va] w fun e w' => e = .returned (.tuple #[]) ∧ BagIs base w' B cv (adF f st l) ∧ Below base w w' := by
  obtain ⟨cg, cl, rfl, eg, hcall⟩ := hc.val
  obtain ⟨ao, ca, rfl, hac, ham, hacl⟩ := ha
  unfold maxLen at ham
  have RA := hide hacl
  have HC := hide hc
  have HI := hide hI
  have HBAG := hide hbag
  obtain ⟨hv0, hb0, hr0⟩ := hbag
  have c0 := hb0.cells.1
  have hBl := hb0.lt
  clear hacl hcall hI hb0 hr0
  obtain ⟨Z, hZ⟩ : ∃ Z, adF f st l = Z := ⟨_, rfl⟩
  rw [hZ]
  have HZ := hide hZ
  clear hZ
  go_enter Try.func7, Try.ntmps7
  go_wp2_with fail
  refine (there_any c0).mono ?_
  rintro e w' ⟨rfl, hw'⟩
  rw [hw']
  clear c0 hw' w'
  go_wp2
  go_loopw [11] (fun p wr => ∃ (i : Nat) (su : List Hi × Int), p = .int .i64 i ∧ i ≤ l.length ∧ Hid (BagIs base wr B (.func (.func cg) #[] cl) su) ∧ Hid (su.1.length = st.1.length + i ∧ su.2 = st.2 + i) ∧ Hid (adF f su (l.drop i) = Z) ∧ Hid (Below base w wr)) (fun p _ => l.length - (intOf p).toNat)
  case atStart => exact ⟨0, st, rfl, by omega, HBAG, hide ⟨rfl, by omega⟩, hide (by simpa using HZ.out), hide (Below.refl _ _)⟩
  case round =>
    obtain ⟨i, ⟨hs, came⟩, rfl, hi, hbg, hl, hz, hB⟩ := hrel
    by_cases hil : i < l.length
    · obtain ⟨ga, oa, rfl, ga1, ga2, hin⟩ := RA.out (by omega)
      have q1 : (i : Int) < (l.length : Int) := by omega
      obtain ⟨⟨x1, x2⟩, hx⟩ : ∃ x, l[i] = x := ⟨_, rfl⟩
      have HNX := hide (show adF f (ad1 f (hs, came) (x1, x2)) (l.drop (i + 1)) = Z by rw [← hz.out, List.drop_eq_getElem_cons hil, hx]; rfl)
      have qx := hin i hil
      rw [hx] at qx
      have cx0 := (hB.out.cell (p := ⟨ga, _, none⟩) ga1).trans qx.1
      have cx1 := (hB.out.cell (p := ⟨ga, _, none⟩) ga1).trans qx.2
      obtain ⟨hv, hba, hrw⟩ := hbg.out
      simp only at hba hrw
      have hle : hs.length + 1 ≤ 1099511627776 := by have := hl.out.1; simp only at this; omega
      have hce : 0 ≤ came ∧ came ≤ 2199023255552 := by have := hl.out.2; simp only at this; omega
      have hwb := hba.lt
      obtain ⟨W1, hW1⟩ : ∃ u, wr.alloc (.cells #[.int .i64 x1, .int .i64 x2] 29) = u := ⟨_, rfl⟩
      have K1 : Below wr.heap.size wr W1 := by rw [← hW1]; exact (Below.refl _ wr).alloc (Nat.le_refl _) _
      have hs1 : W1.heap.size = wr.heap.size + 1 := by rw [← hW1]; simp
      have hx1 : W1.heap[wr.heap.size]? = some (.cells #[.int .i64 x1, .int .i64 x2] 29 (0, 0)) := by rw [← hW1]; exact heap_alloc_new wr _
      have ba1 : BagAt W1 B (.func (.func cg) #[] cl) came hv := hba.keep (K1.block _ hwb)
      have rw1 : HpRow base W1 hv hs := hrw.kept (ograwn K1) (by
        cases he : hv.ownBlock with
        | none => exact .inl rfl
        | some k => exact .inr (by simp))
      obtain ⟨ho, hcp, rfl, hc1, hc2, hgf⟩ := rw1.form
      have d1 := ba1.cells.2.1
      have d2 := ba1.cells.2.2
      have x0 := cell_of_row W1 _ 0 _ _ _ hx1
      have x1' := cell_of_row W1 _ 1 _ _ _ hx1
      simp at x0 x1'
      have A1 : ∀ o, (W1.alloc o).cell? ⟨B, 1, none⟩ = some (.int .i64 came) := fun o => (World.cell?_of_block (a := ⟨B, 1, none⟩) (Below.heap_alloc W1 o B ba1.lt)).trans d1
      have A2 : ∀ o, (W1.alloc o).cell? ⟨B, 2, none⟩ = some (.slice ho hs.length hcp) := fun o => (World.cell?_of_block (a := ⟨B, 2, none⟩) (Below.heap_alloc W1 o B ba1.lt)).trans d2
      have hbs : ∀ o, base ≤ ((W1.alloc o).drew).heap.size := fun o => by
        have : (W1.alloc o).drew.heap.size = W1.heap.size + 1 := by simp
        omega
      have hne := hv_ne ba1 rw1
      have BAL := hide (fun o => (show BagAt (W1.alloc o).drew B (.func (.func cg) #[] cl) came (.slice ho hs.length hcp) from ba1.keep (Below.heap_alloc W1 o B ba1.lt)))
      have HRW1 := hide rw1
      have HBA1 := hide ba1
      have HS1 := hide hs1
      have HK1 := hide K1
      clear hin qx hbg hz hba hrw hgf hx1 ba1 rw1 hs1 K1
      go_wp2
      first | go_region_law ((((refine step_append_hi rfl (.tmp 19) (.tmp 26) 44 rfl base 48 _ 24 Try.underlying44 hiInfo (by rfl) (.slice ho hs.length hcp) hs.length (flat3 hs) (by rfl) (HRW1.out.alloc _) W1.heap.size 1 #[.int .i64 x1, .int .i64 x2, .int .i64 came] 48 (by rfl) (by rfl) (by exact heap_alloc_new _ _) (by intro u hu; simp at hu; rcases hu with rfl | rfl | rfl <;> rfl) (by unfold maxLen; omega) (by omega) (hbs _) ?_; intro g' cap' w4 hown' hgrow; have q := (BAL.out _).grown hgrow hne; have q0 := q.cells.1; have q1' := q.cells.2.1; have q2 := q.cells.2.2; have qf := q.frozen 2; have qg := q.frozen 1; have HQ := hide q; clear q)))) | fail "region"
      all_goals
        have M := add_mem (x := (x1, x2)) hb (hB.out.trans (HK1.out.mono (by omega))) (by have := HS1.out; omega) HRW1.out HQ.out hown' hgrow
        obtain ⟨m1, m2, m3, m4, m5, m6⟩ := M
        have n2 := m1.cells.2.2
        have RS := hide (rise_any (I := I) m1.cells.1 m1.lt m6 (by simp; exact m5) m2 (by simp) (by omega) (by omega) HC.out (fun W k => HI.out W (m3.trans (k.below (by have := m1.lt; omega) (fun j hj e => by omega)))))
        have HM1 := hide m1
        have HM3 := hide m3
        clear m1 m2 m3 hown' hgrow
        go_wp2_with fail
        refine RS.out.mono ?_
        rintro e w7 ⟨rfl, r7, x7⟩
        rw [Nat.add_sub_cancel] at r7
        have HG7 : Hid (BagIs base w7 B (.func (.func cg) #[] cl) (ad1 f (hs, came) (x1, x2))) := hide ⟨_, HM1.out.keep (x7.block _ HM1.out.lt m6), r7⟩
        have HB7 := hide (HM3.out.trans (x7.below (B := base) (by have := HM1.out.lt; omega) (fun j hj e => by omega)))
        clear r7 x7 RS HQ
        go_wp2
        go_roundw
        case rel => exact ⟨i + 1, _, by simp, by omega, HG7, hide ⟨by rw [ad1_len]; have := hl.out.1; simp only at this ⊢; omega, by have := hl.out.2; simp only [ad1] at this ⊢; omega⟩, HNX, HB7⟩
        case measure => simp [intOf]; omega
    · have q1 : ¬ (i : Int) < (l.length : Int) := by omega
      go_wp2
      go_end0
      refine ⟨rfl, ?_, hB.out⟩
      have := hz.out
      rw [List.drop_eq_nil_of_le (by omega)] at this
      rw [← this]
      exact hbg.out

end Go.Proofs.Ytboikfcmbfaaeaa

namespace Go.Proofs.Ytboikfcmbfaaeaa
open Go.RowKit Go.Shelf
set_option linter.unusedVariables false
set_option linter.unusedSimpArgs false

abbrev hi0 : Hi := ((0, 0), 0)
theorem flat3_zeros (n : Nat) : flat3 (List.replicate n hi0) = List.replicate (n * 3) (.int .i64 0) := by
  induction n with
  | zero => rfl
  | succ n ih => rw [List.replicate_succ, flat3_cons, ih, show (n + 1) * 3 = n * 3 + 1 + 1 + 1 by omega, List.replicate_succ, List.replicate_succ, List.replicate_succ]
theorem made_items3 (n : Nat) : madeCells #[Value.int .i64 0, Value.int .i64 0, Value.int .i64 0] (n * 3) = (flat3 (List.replicate n hi0)).toArray := by
  rw [flat3_zeros]
  apply Array.ext
  · simp [madeCells]
  · intro i h1 h2
    simp only [madeCells, Array.getElem_map, Array.getElem_range, List.getElem_toArray, List.getElem_replicate]
    rcases (show i % 3 = 0 ∨ i % 3 = 1 ∨ i % 3 = 2 by omega) with e | e | e <;> simp [e]
theorem mk_items3 {n : Nat} (hn : n ≤ 1099511627776) (w : World) : (Instr.makeSlice 44 (.int .i64 (n : Int)) (.int .i64 (n : Int))).run Try.prog w = .ok (.slice (some ⟨w.heap.size, 0, none⟩) n n) (w.alloc (.cells (flat3 (List.replicate n hi0)).toArray 48)) := by
  obtain ⟨i0, hi, hz0, hz1, hz2⟩ := info_parts hiInfo
  have := run_make (P := Try.prog) w 44 48 i0 _ Try.underlying44 hi hz0 .i64 .i64 n n (by omega) (Int.le_refl _) (by rw [hz2]; omega) (by omega)
  rw [this, hz1]
  simp only [Int.toNat_natCast]
  rw [show (Value.agg #[Value.int .i64 0, Value.int .i64 0, Value.int .i64 0]).cells = #[Value.int .i64 0, Value.int .i64 0, Value.int .i64 0] from rfl, made_items3]
theorem flat3_one (xs : List Hi) : ∀ v ∈ flat3 xs, v.oneCell' = true := by
  intro v hv
  simp only [flat3, List.mem_flatMap] at hv
  obtain ⟨x, _, hv⟩ := hv
  simp at hv
  rcases hv with rfl | rfl | rfl <;> rfl
theorem run_copy_items3 (w : World) (ty : TypeId) (g o dLen dCap : Nat) (a : Addr) (sLen sCap : Nat) (cur : Array Value) (t : TypeId) (cs : List Value) (hg : w.heap[g]? = some (.cells cur t (0, 0))) (hn : cs.length = Nat.min sLen dLen * 3)
    (hsrc : ∀ j v, cs[j]? = some v → w.cell? (a.add j) = some v) (hfit : o + cs.length ≤ cur.size) (h1 : ∀ v ∈ cs, v.oneCell' = true) :
    (Builtin.copy_ #[44, 44] ty #[.slice (some ⟨g, o, none⟩) dLen dCap, .slice (some a) sLen sCap]).run Try.prog w = .ok (goInt (Nat.min sLen dLen)) (w.setRow g (cur.toList.take o ++ cs ++ cur.toList.drop (o + cs.length)).toArray) := by
  have hl := run_loadCells_list (P := Try.prog) w a cs hsrc
  have hst := run_storeCells_at Try.prog g o t cs 0 cur w hg (by simpa using hfit) h1
  obtain ⟨i, hq, _, hi, _⟩ := info_parts hiInfo
  simp [Builtin.copy_, run_underlying Try.underlying44, Builtin.lenOf, Builtin.firstCells, sizeOf, typeInfo, hq, hi, ← hn, hl, hst]
/-- the heap's row is copied into a new one -/
theorem hp_copy {w W : World} {base g : Nat} {hv : Value} {hs : List Hi} (hB : Below w.heap.size w W) (hr : W.heap[g]? = some (.cells (flat3 (List.replicate hs.length hi0)).toArray 48 (0, 0))) (ha : HpRow base w hv hs) (hm : hs.length ≤ 1099511627776) :
    ∃ W3, (Builtin.copy_ #[44, 44] 3 #[.slice (some ⟨g, 0, none⟩) hs.length hs.length, hv]).run Try.prog W = .ok (.int .i64 hs.length) W3 ∧ W3.heap[g]? = some (.cells (flat3 hs).toArray 48 (0, 0)) ∧ W.grownBy W3 (some g) ∧ W3.heap.size = W.heap.size := by
  obtain ⟨h0, ⟨rfl, h1⟩ | ⟨gs, cap, cur, rfl, h2, h3, h4, h5, h6, h7⟩⟩ := ha
  · obtain rfl := List.eq_nil_of_length_eq_zero h1
    refine ⟨W, ?_, hr, ⟨rfl, rfl, rfl, Nat.le_refl _, fun _ _ _ => rfl⟩, rfl⟩
    obtain ⟨i, hq, _, hi, _⟩ := info_parts hiInfo
    simp [Builtin.copy_, run_underlying Try.underlying44, Builtin.lenOf, Builtin.firstCells, sizeOf, typeInfo, hq, hi, goInt, storeCells]
  · have hrun := run_copy_items3 W 3 g 0 hs.length hs.length ⟨gs, 0, none⟩ hs.length cap _ _ (flat3 hs) hr (by rw [flat3_len, show Nat.min hs.length hs.length = hs.length from Nat.min_self _]) ?_ (by simp [flat3_len]) (flat3_one hs)
    · refine ⟨_, hrun.trans (by rw [show Nat.min hs.length hs.length = hs.length from Nat.min_self _]; rfl), ?_, ?_, by simp [World.setRow]⟩
      · rw [setRow_heap _ _ _ _ _ _ hr]
        have : (flat3 (List.replicate hs.length hi0)).drop (flat3 hs).length = [] := List.drop_eq_nil_of_le (by rw [flat3_len, flat3_len]; simp)
        simp [this]
      · exact ⟨rfl, rfl, rfl, by simp [World.setRow], fun k _ hk => setRow_other W g k _ (fun e => hk (by rw [e]))⟩
    · intro j v hj
      have e : cur[j]? = some v := by
        rw [← h7, List.getElem?_take] at hj
        split at hj
        · simpa using hj
        · cases hj
      rw [Addr.add_lit]
      have hc := cell_of_row w gs (0 + j) cur _ _ h3
      rw [Nat.zero_add] at hc ⊢
      exact (hB.cell (p := ⟨gs, j, none⟩) (Array.getElem?_eq_some_iff.1 h3).1).trans (hc.trans e)
set_option maxRecDepth 100000 in
set_option maxHeartbeats 8000000 in
theorem copied_any {w : World} {base B g : Nat} {cl : Array Value} {came : Int} {hv : Value} {hs : List Hi} (hbag : BagAt w B (.func (.func g) #[] cl) came hv) (hrow : HpRow base w hv hs) (hm : hs.length ≤ 1099511627776) :
    Calls Try.prog 26 #[.pointer (some ⟨B, 0, none⟩)] w fun e w' => e = .returned (.pointer (some ⟨w.heap.size + 1, 0, none⟩)) ∧ BagAt w' (w.heap.size + 1) (.func (.func g) #[] cl) 0 (.slice (some ⟨w.heap.size, 0, none⟩) hs.length hs.length) ∧ HpRow w.heap.size w' (.slice (some ⟨w.heap.size, 0, none⟩) hs.length hs.length) hs ∧ Below w.heap.size w w' := by
  obtain ⟨c0, c1, c2⟩ := hbag.cells
  obtain ⟨ao, cap, rfl, -, -, -⟩ := hrow.form
  have mk := mk_items3 hm
  obtain ⟨W1, hW1⟩ : ∃ u, w.alloc (.cells (flat3 (List.replicate hs.length hi0)).toArray 48) = u := ⟨_, rfl⟩
  have k1 : Below w.heap.size w W1 := by rw [← hW1]; exact (Below.refl _ w).alloc (Nat.le_refl _) _
  have s1 : W1.heap.size = w.heap.size + 1 := by rw [← hW1]; simp
  have r1 : W1.heap[w.heap.size]? = some (.cells (flat3 (List.replicate hs.length hi0)).toArray 48 (0, 0)) := by rw [← hW1]; exact heap_alloc_new w _
  obtain ⟨W3, hcp, hr3, hg3, hs3⟩ := hp_copy k1 r1 hrow hm
  have k3 : Below w.heap.size w W3 := k1.trans ((BelX.grown (X := fun k => k = w.heap.size) (n := w.heap.size) hg3 (by omega) (fun k e => by cases e; exact .inr rfl)).below (Nat.le_refl _) (fun k hk e => by omega))
  have s3 : W3.heap.size = w.heap.size + 1 := by omega
  have C1 := hide (there_any (g := g) (cl := cl) c0)
  have d0 := (k1.cell (p := ⟨B, 0, none⟩) hbag.lt).trans c0
  have d2 := (k1.cell (p := ⟨B, 2, none⟩) hbag.lt).trans c2
  have f0 := (k3.cell (p := ⟨B, 0, none⟩) hbag.lt).trans c0
  go_enter Try.func26, Try.ntmps26
  go_wp2_with fail
  refine C1.out.mono ?_
  rintro e w ⟨rfl, rfl⟩
  have HR := hide hr3
  have K3 := hide k3
  have S3 := hide s3
  clear hr3 hg3 hs3 k3 r1 k1 hrow hbag
  go_wp2
  go_ret
  have hm2 : hs.length ≤ maxLen := by unfold maxLen; omega
  refine ⟨rfl, ?_, ?_, K3.out.alloc (by have := S3.out; omega) _⟩
  · unfold BagAt
    rw [← S3.out]
    exact World.alloc_heap_new W3 _
  · refine ⟨flat3_len hs, .inr ⟨w.heap.size, hs.length, _, rfl, Nat.le_refl _, (Below.heap_alloc W3 _ _ (by have := S3.out; omega)).trans HR.out, Nat.le_refl _, hm2, by simp [flat3_len], ?_⟩⟩
    rw [List.toList_toArray, ← flat3_len hs, List.take_length]
set_option maxRecDepth 100000 in
set_option maxHeartbeats 8000000 in
theorem take0_any {w : World} {B g cap : Nat} {ao : Option Addr} {cl : Array Value} {came : Int} (hbag : BagAt w B (.func (.func g) #[] cl) came (.slice ao 0 cap)) :
    Calls Try.prog 9 #[.pointer (some ⟨B, 0, none⟩)] w fun e w' => e = .returned (.tuple #[itV (0, 0), .bool false]) ∧ Below w.heap.size w w' := by
  go_enter Try.func9, Try.ntmps9
  obtain ⟨W1, hW1⟩ : ∃ u, w.alloc (.cells #[.int .i64 0, .int .i64 0] 29) = u := ⟨_, rfl⟩
  have k1 : Below w.heap.size w W1 := by rw [← hW1]; exact (Below.refl _ w).alloc (Nat.le_refl _) _
  have s1 : W1.heap.size = w.heap.size + 1 := by rw [← hW1]; simp
  have r1 : W1.heap[w.heap.size]? = some (.cells #[.int .i64 0, .int .i64 0] 29 (0, 0)) := by rw [← hW1]; exact heap_alloc_new w _
  have C1 := hide (len_any (hbag.keep (k1.block _ hbag.lt)) (by omega))
  go_wp2_with fail
  try rw [hW1]
  refine C1.out.mono ?_
  rintro e W1 ⟨rfl, rfl⟩
  obtain ⟨W2, hW2⟩ : ∃ u, W1.alloc (.cells #[.int .i64 0, .int .i64 0] 29) = u := ⟨_, rfl⟩
  have k2 : Below W1.heap.size W1 W2 := by rw [← hW2]; exact (Below.refl _ W1).alloc (Nat.le_refl _) _
  have r2 : W2.heap[W1.heap.size]? = some (.cells #[.int .i64 0, .int .i64 0] 29 (0, 0)) := by rw [← hW2]; exact heap_alloc_new W1 _
  have r3 := (k2.block _ (by omega : w.heap.size < W1.heap.size)).trans r1
  have a0 := cell_of_row W2 _ 0 _ _ _ r2
  have a1 := cell_of_row W2 _ 1 _ _ _ r2
  have b0 := cell_of_row W2 _ 0 _ _ _ r3
  have b1 := cell_of_row W2 _ 1 _ _ _ r3
  have f0 := frozen_of_row W2 _ 0 _ _ r3
  have f1 := frozen_of_row W2 _ 1 _ _ r3
  simp at a0 a1 b0 b1
  rw [s1] at a0 a1
  have K2 := hide (below_trans k1 k2)
  have R3 := hide r3
  have ss : w.heap.size < W1.heap.size := by omega
  clear k1 k2 r1 r2 r3 hW1 hbag C1
  go_wp2
  obtain ⟨W7, hW7⟩ : ∃ u, (W2.setCell ⟨w.heap.size, 0, none⟩ (.int .i64 0)).setCell ⟨w.heap.size, 1, none⟩ (.int .i64 0) = u := ⟨_, rfl⟩
  have R7 : W7.heap[w.heap.size]? = some (.cells #[.int .i64 0, .int .i64 0] 29 (0, 0)) := by
    rw [← hW7, heap_setCell_same _ _ 1 _ _ _ (heap_setCell_same W2 _ 0 _ _ _ R3.out)]
    simp
  have z0 := cell_of_row W7 _ 0 _ _ _ R7
  have z1 := cell_of_row W7 _ 1 _ _ _ R7
  simp at z0 z1
  rw [hW7]
  have HE : BelX (fun k => k = w.heap.size) w.heap.size W2 W7 := by
    rw [← hW7]
    exact (belx_set (X := fun k => k = w.heap.size) _ _ rfl).trans (belx_set (X := fun k => k = w.heap.size) _ _ rfl)
  exact bodyPost_ret (v := .tuple #[itV (0, 0), .bool false]) (by simp [results, Try.results9, go_sem, z0, z1]) rfl ⟨rfl, K2.out.trans (HE.below (Nat.le_refl _) (fun k hk e => by omega))⟩

end Go.Proofs.Ytboikfcmbfaaeaa

namespace Go.Proofs.Ytboikfcmbfaaeaa
set_option linter.unusedVariables false
set_option linter.unusedSimpArgs false

theorem swp_perm (hs : List Hi) {i j : Nat} (hi : i < hs.length) (hj : j < hs.length) : (swp hs i j).Perm hs := by
  unfold swp
  rw [hAt_eq hi, hAt_eq hj]
  exact List.set_set_perm hi hj
theorem riseF_perm (ah : Hi → Hi → Bool) (hs : List Hi) (a : Nat) (ha : a < hs.length) : (riseF ah hs a).Perm hs := by
  induction a using Nat.strongRecOn generalizing hs with
  | _ a ih =>
    rw [riseF]
    split
    · split
      · refine (ih ((a - 1) / 2) (by omega) _ (by rw [swp_len]; omega)).trans (swp_perm hs ha (by omega))
      · exact List.Perm.refl _
    · exact List.Perm.refl _
theorem sinkF_perm (ah : Hi → Hi → Bool) (hs : List Hi) (a : Nat) : (sinkF ah hs a).Perm hs := by
  induction hn : hs.length - a using Nat.strongRecOn generalizing hs a with
  | _ n ih =>
    rw [sinkF]
    split
    · rename_i h
      have hl := low_lt (ah := ah) h
      have hl2 := low_two (ah := ah) (hs := hs) (a := a)
      split
      · exact (ih _ (by rw [swp_len]; omega) _ _ rfl).trans (swp_perm hs (by omega) hl)
      · exact List.Perm.refl _
    · exact List.Perm.refl _
theorem tkF_perm (f : It → It → Int) (hs : List Hi) (h : 1 ≤ hs.length) : (hAt hs 0 :: tkF f hs).Perm hs := by
  unfold tkF
  refine ((sinkF_perm _ _ _).cons _).trans ?_
  cases hs with
  | nil => simp at h
  | cons a t =>
    simp only [List.length_cons, Nat.add_sub_cancel, List.set_cons_zero]
    rw [hAt_eq (by simp : 0 < (a :: t).length)]
    simp only [List.getElem_cons_zero]
    cases ht : t.length with
    | zero =>
      obtain rfl := List.eq_nil_of_length_eq_zero ht
      simp
    | succ k =>
      rw [List.take_succ_cons, hAt_eq (by simp; omega)]
      refine List.Perm.cons a ?_
      simp only [List.getElem_cons_succ]
      have e : t = t.take k ++ [t[k]] := by rw [← List.take_succ_eq_append_getElem (by omega), List.take_of_length_le (by omega)]
      conv => rhs; rw [e]
      exact (List.perm_append_singleton _ _).symm
theorem tkF_len (f : It → It → Int) (hs : List Hi) (h : 1 ≤ hs.length) : (tkF f hs).length = hs.length - 1 := by
  have := (tkF_perm f hs h).length_eq
  simp at this
  omega
/-- what is taken till the bag is empty -/
def dr (f : It → It → Int) : Nat → List Hi → List It
  | 0, _ => []
  | n + 1, hs => (hAt hs 0).1 :: dr f n (tkF f hs)
theorem dr_perm (f : It → It → Int) : ∀ (n : Nat) (hs : List Hi), hs.length = n → (dr f n hs).Perm (hs.map Prod.fst)
  | 0, hs, h => by obtain rfl := List.eq_nil_of_length_eq_zero h; exact List.Perm.refl _
  | n + 1, hs, h => by
    unfold dr
    exact ((dr_perm f n (tkF f hs) (by rw [tkF_len f hs (by omega)]; omega)).cons _).trans (by simpa using (tkF_perm f hs (by omega)).map Prod.fst)
theorem ad1_perm (f : It → It → Int) (st : List Hi × Int) (x : It) : ((ad1 f st x).1.map Prod.fst).Perm (st.1.map Prod.fst ++ [x]) := by
  unfold ad1
  have := (riseF_perm (ahF f) (st.1 ++ [(x, st.2)]) (st.1.length) (by simp)).map Prod.fst
  simpa using this
theorem adF_perm (f : It → It → Int) : ∀ (l : List It) (st : List Hi × Int), ((adF f st l).1.map Prod.fst).Perm (st.1.map Prod.fst ++ l)
  | [], st => by simp [adF]
  | x :: l, st => by
    have := adF_perm f l (ad1 f st x)
    have e : adF f st (x :: l) = adF f (ad1 f st x) l := rfl
    rw [e]
    refine this.trans (((ad1_perm f st x).append_right l).trans ?_)
    simp

end Go.Proofs.Ytboikfcmbfaaeaa

namespace Go.Proofs.Ytboikfcmbfaaeaa
open Go.RowKit Go.Shelf
set_option linter.unusedVariables false
set_option linter.unusedSimpArgs false

def lvL : List It := [(3, 0), (-1, 0), (2, 0), (1, 0), (-2, 0)]
def lvS : List It := [(-1, 0), (1, 0), (2, 0), (-2, 0), (3, 0)]
def szF (a b : It) : Int := 7 * ocmp 1 a b
theorem lv_sort : srt szF 1 lvL = lvS := by decide +kernel
theorem lv_srch : bsr szF lvS (2, 0) 0 5 = 2 := by decide +kernel
theorem lv_ok : bsOk szF lvS (2, 0) 2 = true := by decide +kernel
theorem lv_tw : tw szF lvL = 3 := by decide +kernel
theorem lv_add : (adF (fun a b => ocmp 0 a b) ([], 0) lvL).1.length = 5 := by decide +kernel
theorem lv_take : (hAt (adF (fun a b => ocmp 0 a b) ([], 0) lvL).1 0).1 = (-2, 0) := by decide +kernel

set_option maxRecDepth 100000 in
set_option maxHeartbeats 16000000 in
theorem olives {w : World} : Calls Try.prog 15 #[] w fun e w' => e = .returned (.bool true) ∧ Below w.heap.size w w' := by
  obtain ⟨W1, hW1⟩ : ∃ u, w.alloc (.cells #[.int .i64 3, .int .i64 0, .int .i64 (-1), .int .i64 0, .int .i64 2, .int .i64 0, .int .i64 1, .int .i64 0, .int .i64 (-2), .int .i64 0] 29) = u := ⟨_, rfl⟩
  have K1 : Hid (Below w.heap.size w W1) := by rw [← hW1]; exact hide ((Below.refl _ w).alloc (Nat.le_refl _) _)
  have hr1 : ItRow W1 w.heap.size lvL := by rw [← hW1]; exact heap_alloc_new w _
  have rd : ∀ U, Below W1.heap.size W1 U → ItRd (fun g => g = w.heap.size) U (.slice (some ⟨w.heap.size, 0, none⟩) 5 5) lvL := fun U k => (hr1.keep (k.block _ hr1.lt)).rd rfl (Nat.le_refl _) (by unfold maxLen; decide)
  have HL1 := hide hr1.lt
  have C1 := hide (itsort_any (I := fun _ => True) (w := W1) (by decide) ((rd W1 (Below.refl _ _)).mono (fun _ _ _ => trivial)) bySize_is trivial (fun _ _ _ _ => trivial))
  have RD := hide rd
  clear hr1 rd
  go_enter Try.func15, Try.ntmps15
  go_wp2_with fail
  refine C1.out.mono ?_
  rintro e w2 ⟨⟨v, rfl, ho⟩, k2⟩
  rw [show srt (fun a b => 7 * ocmp 1 a b) 1 lvL = lvS from lv_sort] at ho
  rcases ho with ⟨h, _⟩ | ⟨gs, rfl, hgs, hrs, _⟩
  · cases h
  have K2 := hide k2
  have HRS := hide hrs
  have rds := hrs.rd (G := fun _ => True) trivial (Nat.le_refl _) (by unfold maxLen; decide)
  have C2 := hide (search_any (I := fun _ => True) (w := w2) (x := (2, 0)) rds (by decide) bySize_is (fun _ _ => trivial))
  rw [show bsr (fun a b => 7 * ocmp 1 a b) lvS (2, 0) 0 lvS.length = 2 from lv_srch, show bsOk (fun a b => 7 * ocmp 1 a b) lvS (2, 0) 2 = true from lv_ok] at C2
  clear hrs k2 C1 rds hW1
  go_wp2_with fail
  refine C2.out.mono ?_
  rintro e w3 ⟨rfl, k3⟩
  have K3 := hide k3
  clear k3 C2
  go_wp2_with fail
  refine new_any.mono ?_
  rintro e w4 ⟨rfl, hb4, k4, s4⟩
  have K14 : Hid (Below W1.heap.size W1 w4) := hide (K2.out.trans ((K3.out.trans (k4.mono K3.out.size)).mono K2.out.size))
  have HB4 := hide hb4
  have C5 := hide (add_any (I := fun _ => True) (w := w4) (base := w3.heap.size) (st := ([], 0)) (l := lvL) (f := fun a b => ocmp 0 a b) ⟨_, hb4, World.ownsRow_nil _ _ _ _⟩ (Nat.le_refl _) ((RD.out w4 K14.out).mono (fun g _ h => by have := HL1.out; have := K2.out.size; have := K3.out.size; omega)) (by decide) (by decide) (by decide) byKey_is (fun _ _ => trivial))
  have K4 := hide k4
  have S4 := hide s4
  clear hb4 k4 s4
  go_wp2_with fail
  refine C5.out.mono ?_
  rintro e w5 ⟨rfl, hb5, k5⟩
  obtain ⟨hv, hba, hrw⟩ := hb5
  have hl5 := lv_add
  have ht5 := lv_take
  obtain ⟨st, hst⟩ : ∃ st, adF (fun a b => ocmp 0 a b) ([], 0) lvL = st := ⟨_, rfl⟩
  rw [hst] at hba hrw hl5 ht5
  obtain ⟨ho, hcp, rfl, hc1, hc2, hgf⟩ := hrw.form
  obtain ⟨g, rfl, hg1, hg2⟩ := hgf (by omega)
  have C6 := hide (take_any (I := fun _ => True) hba hrw hg2 rfl (by omega) (by omega) hc1 hc2 byKey_is (fun _ _ => trivial))
  rw [ht5, hl5] at C6
  rw [hl5] at hba
  have K5 := hide k5
  have S5 : Hid (w3.heap.size < w5.heap.size) := hide hba.lt
  have HG := hide (And.intro hg1 hg2)
  clear hba hrw hl5 ht5 hst hc1 hc2 hgf k5 C5 HB4 hg1 hg2
  go_wp2_with fail
  refine C6.out.mono ?_
  rintro e w6 ⟨rfl, hb6, _, k6⟩
  clear C6
  obtain ⟨W7, hW7⟩ : ∃ u, w6.alloc (.cells #[.int .i64 (-2), .int .i64 0] 29) = u := ⟨_, rfl⟩
  have K7 : Below w6.heap.size w6 W7 := by rw [← hW7]; exact (Below.refl _ w6).alloc (Nat.le_refl _) _
  have hx7 : W7.heap[w6.heap.size]? = some (.cells #[.int .i64 (-2), .int .i64 0] 29 (0, 0)) := by rw [← hW7]; exact heap_alloc_new w6 _
  have k57 : Below w3.heap.size w5 W7 := (k6.below (B := w3.heap.size) (by have := S5.out; omega) (fun k hk h => by have := HG.out.1; omega)).trans (K7.mono (by have := S5.out; have := k6.size; omega))
  have k37 : Below w3.heap.size w3 W7 := (K4.out.trans (K5.out.mono (Nat.le_refl _))).trans k57
  have k27 : Below w2.heap.size w2 W7 := K3.out.trans (k37.mono K3.out.size)
  have K17 : Hid (Below W1.heap.size W1 W7) := hide (K2.out.trans (k27.mono K2.out.size))
  have rs7 : ItRow W7 gs lvS := HRS.out.keep (k27.block _ HRS.out.lt)
  have e0 := (rs7.cell (i := 0) (by decide)).1
  have e3 := (rs7.cell (i := 3) (by decide)).1
  simp [lvS] at e0 e3
  have b7 : BagAt W7 w3.heap.size (.func (.func 16) #[] #[]) st.2 (.slice (some ⟨g, 0, none⟩) 4 hcp) := hb6.keep (K7.block _ hb6.lt)
  have C8 := hide (twice_any (I := fun _ => True) (w := W7) ((RD.out W7 K17.out).mono (fun _ _ _ => trivial)) (by decide) bySize_is (fun _ _ => trivial))
  rw [show tw (fun a b => 7 * ocmp 1 a b) lvL = 3 from lv_tw] at C8
  have HX7 := hide hx7
  have B7 := hide b7
  have hl : lvS.length = 5 := rfl
  rw [hl]
  subst hW7
  clear hb6 k6 K7 hx7 k57 k37 k27 rs7 b7 K2 K3 K4 K5 S4 S5 HG HRS K14
  go_wp2_with fail
  refine C8.out.mono ?_
  rintro e w8 ⟨rfl, k8⟩
  have B8 := hide (B7.out.keep (k8.block _ B7.out.lt))
  have c8 := cell_of_row w8 _ 0 _ _ _ ((k8.block _ (Array.getElem?_eq_some_iff.1 HX7.out).1).trans HX7.out)
  simp at c8
  have K8 := hide (K1.out.trans ((K17.out.trans (k8.mono K17.out.size)).mono K1.out.size))
  clear k8 C8
  go_wp2_with fail
  refine (len_any B8.out (by decide)).mono ?_
  rintro e w9 ⟨rfl, rfl⟩
  go_wp2
  go_ret
  exact ⟨rfl, K8.out⟩

end Go.Proofs.Ytboikfcmbfaaeaa

namespace Go.Proofs.Ytboikfcmbfaaeaa
open Go.RowKit Go.Shelf
set_option linter.unusedVariables false
set_option linter.unusedSimpArgs false

theorem add2_mem {base : Nat} {w W1 w4 : World} {B g' cap' : Nat} {cv hv : Value} {came : Int} {hs : List Hi} {x : It} {o : Obj} (hB : BelX (fun k => k = B) base w W1) (hbw : base ≤ W1.heap.size) (hr1 : HpRow base W1 hv hs) (hQ : BagAt w4 B cv came hv)
    (hown : w4.ownsRow base 48 3 (.slice (some ⟨g', 0, none⟩) (hs.length + 1) cap') (hs.length + 1) (flat3 hs ++ [.int .i64 x.1, .int .i64 x.2, .int .i64 came])) (hg : (W1.alloc o).drew.grownBy w4 hv.ownBlock) :
    BagAt ((w4.setCell ⟨B, 2, none⟩ (.slice (some ⟨g', 0, none⟩) (hs.length + 1) cap')).setCell ⟨B, 1, none⟩ (.int .i64 (came + 1))) B cv (came + 1) (.slice (some ⟨g', 0, none⟩) (hs.length + 1) cap') ∧
    HpRow base ((w4.setCell ⟨B, 2, none⟩ (.slice (some ⟨g', 0, none⟩) (hs.length + 1) cap')).setCell ⟨B, 1, none⟩ (.int .i64 (came + 1))) (.slice (some ⟨g', 0, none⟩) (hs.length + 1) cap') (hs ++ [(x, came)]) ∧
    BelX (fun k => k = B) base w ((w4.setCell ⟨B, 2, none⟩ (.slice (some ⟨g', 0, none⟩) (hs.length + 1) cap')).setCell ⟨B, 1, none⟩ (.int .i64 (came + 1))) ∧ base ≤ g' ∧ g' < w4.heap.size ∧ B ≠ g' := by
  have hr4 : HpRow base w4 (.slice (some ⟨g', 0, none⟩) (hs.length + 1) cap') (hs ++ [(x, came)]) := by
    unfold HpRow
    rw [flat3_append, List.length_append]
    exact hown
  have hne := bag_ne hQ hr4
  have hlt := World.ownsRow.lt hown g' rfl
  have b4 : BelX (fun k => k = B) base w w4 := by
    have h1 : BelX (fun k => k = B) base W1 (W1.alloc o).drew := BelX.of (((Below.refl W1.heap.size W1).alloc (Nat.le_refl _) o).drew) hbw
    exact (hB.trans h1).trans (BelX.grown hg (by show base ≤ (W1.alloc o).heap.size; simp; omega) (fun k e => .inl (World.ownsRow.lt hr1 k e).1))
  have g2 := grown_set2 w4 B 2 (.slice (some ⟨g', 0, none⟩) (hs.length + 1) cap')
  have g3 := grown_set2 (w4.setCell ⟨B, 2, none⟩ (.slice (some ⟨g', 0, none⟩) (hs.length + 1) cap')) B 1 (.int .i64 (came + 1))
  refine ⟨(hQ.set2 _).set1 _, ?_, (b4.trans (belx_set (i := 2) w4 _ (rfl : B = B))).trans (belx_set (i := 1) _ _ (rfl : B = B)), hlt.1, hlt.2, hne⟩
  have hk : HpRow base _ _ _ := World.ownsRow.kept (World.ownsRow.kept hr4 g2 (.inr (by simp [Value.ownBlock]; exact fun e => hne e.symm))) g3 (.inr (by simp [Value.ownBlock]; exact fun e => hne e.symm))
  exact hk

set_option maxRecDepth 100000 in
set_option maxHeartbeats 16000000 in
theorem add2_any {w : World} {base B : Nat} {va cv : Value} {st : List Hi × Int} {l : List It} {f : It → It → Int} {I : World → Prop} (hbag : BagIs base w B cv st) (hbs0 : base ≤ w.heap.size) (ha : ItRd (fun g => (g < base ∧ g ≠ B) ∨ l.length ≤ 1) w va l) (h1 : st.1.length + l.length ≤ 1099511627776) (h2 : 0 ≤ st.2) (h3 : st.2 ≤ 1099511627776) (hc : CmpIs I cv f) (hI : ∀ W, I W) :
    Calls Try.prog 7 #[.pointer (some ⟨B, 0, none⟩), va] w fun e w' => e = .returned (.tuple #[]) ∧ BagIs base w' B cv (adF f st l) ∧ BelX (fun k => k = B) base w w' := by
  obtain ⟨cg, cl, rfl, eg, hcall⟩ := hc.val
  obtain ⟨ao, ca, rfl, hac, ham, hacl⟩ := ha
  unfold maxLen at ham
  have RA := hide hacl
  have HC := hide hc
  have HI := hide hI
  have HBAG := hide hbag
  obtain ⟨hv0, hb0, hr0⟩ := hbag
  have c0 := hb0.cells.1
  have hBl := hb0.lt
  clear hacl hcall hI hb0 hr0
  obtain ⟨Z, hZ⟩ : ∃ Z, adF f st l = Z := ⟨_, rfl⟩
  rw [hZ]
  have HZ := hide hZ
  clear hZ
  go_enter Try.func7, Try.ntmps7
  go_wp2_with fail
  refine (there_any c0).mono ?_
  rintro e w' ⟨rfl, hw'⟩
  rw [hw']
  clear c0 hw' w'
  go_wp2
  go_loopw [11] (fun p wr => ∃ (i : Nat) (su : List Hi × Int), p = .int .i64 i ∧ i ≤ l.length ∧ Hid (BagIs base wr B (.func (.func cg) #[] cl) su) ∧ Hid (su.1.length = st.1.length + i ∧ su.2 = st.2 + i) ∧ Hid (adF f su (l.drop i) = Z) ∧ Hid (BelX (fun k => k = B) base w wr) ∧ Hid (i = 0 → wr = w)) (fun p _ => l.length - (intOf p).toNat)
  case atStart => exact ⟨0, st, rfl, by omega, HBAG, hide ⟨rfl, by omega⟩, hide (by simpa using HZ.out), hide (BelX.refl _ _ _), hide (fun _ => rfl)⟩
  case round =>
    obtain ⟨i, ⟨hs, came⟩, rfl, hi, hbg, hl, hz, hB, hW0⟩ := hrel
    by_cases hil : i < l.length
    · obtain ⟨ga, oa, rfl, ga1, ga2, hin⟩ := RA.out (by omega)
      have q1 : (i : Int) < (l.length : Int) := by omega
      obtain ⟨⟨x1, x2⟩, hx⟩ : ∃ x, l[i] = x := ⟨_, rfl⟩
      have HNX := hide (show adF f (ad1 f (hs, came) (x1, x2)) (l.drop (i + 1)) = Z by rw [← hz.out, List.drop_eq_getElem_cons hil, hx]; rfl)
      have qx := hin i hil
      rw [hx] at qx
      have hsame : ∀ o', wr.cell? ⟨ga, o', none⟩ = w.cell? ⟨ga, o', none⟩ := fun o' => by
        rcases ga1 with h | h
        · exact hB.out.cell (p := ⟨ga, o', none⟩) h.1 h.2
        · rw [hW0.out (by omega)]
      have cx0 := (hsame _).trans qx.1
      have cx1 := (hsame _).trans qx.2
      clear hsame
      obtain ⟨hv, hba, hrw⟩ := hbg.out
      simp only at hba hrw
      have hle : hs.length + 1 ≤ 1099511627776 := by have := hl.out.1; simp only at this; omega
      have hce : 0 ≤ came ∧ came ≤ 2199023255552 := by have := hl.out.2; simp only at this; omega
      have hwb := hba.lt
      have hbs1 := hB.out.size
      obtain ⟨W1, hW1⟩ : ∃ u, wr.alloc (.cells #[.int .i64 x1, .int .i64 x2] 29) = u := ⟨_, rfl⟩
      have K1 : Below wr.heap.size wr W1 := by rw [← hW1]; exact (Below.refl _ wr).alloc (Nat.le_refl _) _
      have hs1 : W1.heap.size = wr.heap.size + 1 := by rw [← hW1]; simp
      have hx1 : W1.heap[wr.heap.size]? = some (.cells #[.int .i64 x1, .int .i64 x2] 29 (0, 0)) := by rw [← hW1]; exact heap_alloc_new wr _
      have ba1 : BagAt W1 B (.func (.func cg) #[] cl) came hv := hba.keep (K1.block _ hwb)
      have rw1 : HpRow base W1 hv hs := hrw.kept (ograwn K1) (by
        cases he : hv.ownBlock with
        | none => exact .inl rfl
        | some k => exact .inr (by simp))
      obtain ⟨ho, hcp, rfl, hc1, hc2, hgf⟩ := rw1.form
      have d1 := ba1.cells.2.1
      have d2 := ba1.cells.2.2
      have x0 := cell_of_row W1 _ 0 _ _ _ hx1
      have x1' := cell_of_row W1 _ 1 _ _ _ hx1
      simp at x0 x1'
      have A1 : ∀ o, (W1.alloc o).cell? ⟨B, 1, none⟩ = some (.int .i64 came) := fun o => (World.cell?_of_block (a := ⟨B, 1, none⟩) (Below.heap_alloc W1 o B ba1.lt)).trans d1
      have A2 : ∀ o, (W1.alloc o).cell? ⟨B, 2, none⟩ = some (.slice ho hs.length hcp) := fun o => (World.cell?_of_block (a := ⟨B, 2, none⟩) (Below.heap_alloc W1 o B ba1.lt)).trans d2
      have hbs : ∀ o, base ≤ ((W1.alloc o).drew).heap.size := fun o => by
        have : (W1.alloc o).drew.heap.size = W1.heap.size + 1 := by simp
        omega
      have hne := hv_ne ba1 rw1
      have BAL := hide (fun o => (show BagAt (W1.alloc o).drew B (.func (.func cg) #[] cl) came (.slice ho hs.length hcp) from ba1.keep (Below.heap_alloc W1 o B ba1.lt)))
      have HRW1 := hide rw1
      have HBA1 := hide ba1
      have HS1 := hide hs1
      have HK1 := hide K1
      clear hin qx hbg hz hba hrw hgf hx1 ba1 rw1 hs1 K1
      go_wp2
      first | go_region_law ((((refine step_append_hi rfl (.tmp 19) (.tmp 26) 44 rfl base 48 _ 24 Try.underlying44 hiInfo (by rfl) (.slice ho hs.length hcp) hs.length (flat3 hs) (by rfl) (HRW1.out.alloc _) W1.heap.size 1 #[.int .i64 x1, .int .i64 x2, .int .i64 came] 48 (by rfl) (by rfl) (by exact heap_alloc_new _ _) (by intro u hu; simp at hu; rcases hu with rfl | rfl | rfl <;> rfl) (by unfold maxLen; omega) (by omega) (hbs _) ?_; intro g' cap' w4 hown' hgrow; have q := (BAL.out _).grown hgrow hne; have q0 := q.cells.1; have q1' := q.cells.2.1; have q2 := q.cells.2.2; have qf := q.frozen 2; have qg := q.frozen 1; have HQ := hide q; clear q)))) | fail "region"
      all_goals
        have M := add2_mem (x := (x1, x2)) (hB.out.trans (BelX.of HK1.out (by omega))) (by have := HS1.out; omega) HRW1.out HQ.out hown' hgrow
        obtain ⟨m1, m2, m3, m4, m5, m6⟩ := M
        have n2 := m1.cells.2.2
        have RS := hide (rise_any (I := I) m1.cells.1 m1.lt m6 (by simp; exact m5) m2 (by simp) (by omega) (by omega) HC.out (fun W k => HI.out W))
        have HM1 := hide m1
        have HM3 := hide m3
        clear m1 m2 m3 hown' hgrow
        go_wp2_with fail
        refine RS.out.mono ?_
        rintro e w7 ⟨rfl, r7, x7⟩
        rw [Nat.add_sub_cancel] at r7
        have HG7 : Hid (BagIs base w7 B (.func (.func cg) #[] cl) (ad1 f (hs, came) (x1, x2))) := hide ⟨_, HM1.out.keep (x7.block _ HM1.out.lt m6), r7⟩
        have HB7 := hide (HM3.out.trans (x7.mono (m := base) (by have := HM3.out.size; omega) (fun j hj e => by omega)))
        clear r7 x7 RS HQ
        go_wp2
        go_roundw
        case rel => exact ⟨i + 1, _, by simp, by omega, HG7, hide ⟨by rw [ad1_len]; have := hl.out.1; simp only at this ⊢; omega, by have := hl.out.2; simp only [ad1] at this ⊢; omega⟩, HNX, HB7, hide (fun e => by omega)⟩
        case measure => simp [intOf]; omega
    · have q1 : ¬ (i : Int) < (l.length : Int) := by omega
      go_wp2
      go_end0
      refine ⟨rfl, ?_, hB.out⟩
      have := hz.out
      rw [List.drop_eq_nil_of_le (by omega)] at this
      rw [← this]
      exact hbg.out

end Go.Proofs.Ytboikfcmbfaaeaa

namespace Go.Proofs.Ytboikfcmbfaaeaa
open Go.RowKit Go.Shelf
set_option linter.unusedVariables false
set_option linter.unusedSimpArgs false

theorem step_append_at {P : Program} {ops : Array Oper} {o : Oper} {a : Act} {w : World} {K : Act → World → Prop} {Q : Exit → Act → World → Prop} {E : Prop} (hgd : o.guard = none) (s x : Operand) (t : TypeId)
    (ho : o.op = .call { callee := .builtin .append, args := #[s, x], argTypes := #[t, t] })
    (base : Nat) (e : TypeId) (z : Value) (bytes : Nat) (ht : P.underlying t = some (.slice e)) (hinf : (P.info? e).map (fun i => (i.zero, i.size, i.bytes)) = some (some z, 3, bytes)) (hz3 : z.cells.size = 3)
    (v : Value) (n : Nat) (xs : List Value) (hs : a.eval s = v) (hown : w.ownsRow base e 3 v n xs) (g c : Nat) (cs : Array Value) (e' : TypeId) (hcs : cs.size = 3) (hx : a.eval x = .slice (some ⟨g, 0, none⟩) 1 c) (hblk : w.heap[g]? = some (.cells cs e' (0, 0)))
    (h1 : ∀ u ∈ cs.toList, u.oneCell' = true) (h63 : n + 1 ≤ maxLen) (hbytes : (n + 1) * bytes ≤ 140737488355328) (hbase : base ≤ w.heap.size)
    (h : ∀ g' cap' w', w'.ownsRow base e 3 (.slice (some ⟨g', 0, none⟩) (n + 1) cap') (n + 1) (xs ++ cs.toList) → w.grownBy w' v.ownBlock → (some g' = v.ownBlock ∨ g' = w.heap.size) → K (a.put o.dst (.slice (some ⟨g', 0, none⟩) (n + 1) cap')) w') :
    if Region.wanted o (yielded ops a.tmps) = true then Oper.wp P o a w K Q else E := by
  have hw : Region.wanted o (yielded ops a.tmps) = true := by simp [Region.wanted, hgd]
  rw [if_pos hw]
  obtain ⟨i, hi, hz, hsz, hby⟩ := info_parts hinf
  obtain ⟨v', w', hr, h2, h3, _, h5⟩ := run_append_own_at (P := P) w base t o.type e i z 3 bytes ht hi hz hsz hby hz3 (by decide) v n xs hown ⟨g, 0, none⟩ 1 c cs.toList (by simpa using hcs) (World.news_of_block hblk) h1 h63 hbytes hbase
  have hK : K (a.put o.dst v') w' := by
    rcases h2.2 with ⟨_, h'⟩ | ⟨g', cap', cur, rfl, _⟩
    · omega
    · exact h g' cap' w' h2 h3 (h5.elim (fun e => .inl e) (fun e => .inr (by cases e; rfl)))
  unfold Oper.wp
  simp [execOp, ho, resolve, invoke, builtin, hs, hx, hr, Result.andThen]
  exact hK

theorem add3_mem {base : Nat} {w W1 w4 : World} {B g' cap' : Nat} {cv hv : Value} {came : Int} {hs : List Hi} {x : It} {o : Obj} {hv0 : Value} (hB : BelX (fun k => k = B ∨ hv0.ownBlock = some k) w.heap.size w W1) (hv1 : ∀ k, hv.ownBlock = some k → hv0.ownBlock = some k ∨ w.heap.size ≤ k) (hr1 : HpRow base W1 hv hs) (hQ : BagAt w4 B cv came hv)
    (hown : w4.ownsRow base 48 3 (.slice (some ⟨g', 0, none⟩) (hs.length + 1) cap') (hs.length + 1) (flat3 hs ++ [.int .i64 x.1, .int .i64 x.2, .int .i64 came])) (hg : (W1.alloc o).drew.grownBy w4 hv.ownBlock) :
    BagAt ((w4.setCell ⟨B, 2, none⟩ (.slice (some ⟨g', 0, none⟩) (hs.length + 1) cap')).setCell ⟨B, 1, none⟩ (.int .i64 (came + 1))) B cv (came + 1) (.slice (some ⟨g', 0, none⟩) (hs.length + 1) cap') ∧
    HpRow base ((w4.setCell ⟨B, 2, none⟩ (.slice (some ⟨g', 0, none⟩) (hs.length + 1) cap')).setCell ⟨B, 1, none⟩ (.int .i64 (came + 1))) (.slice (some ⟨g', 0, none⟩) (hs.length + 1) cap') (hs ++ [(x, came)]) ∧
    BelX (fun k => k = B ∨ hv0.ownBlock = some k) w.heap.size w ((w4.setCell ⟨B, 2, none⟩ (.slice (some ⟨g', 0, none⟩) (hs.length + 1) cap')).setCell ⟨B, 1, none⟩ (.int .i64 (came + 1))) ∧ base ≤ g' ∧ g' < w4.heap.size ∧ B ≠ g' := by
  have hr4 : HpRow base w4 (.slice (some ⟨g', 0, none⟩) (hs.length + 1) cap') (hs ++ [(x, came)]) := by
    unfold HpRow
    rw [flat3_append, List.length_append]
    exact hown
  have hne := bag_ne hQ hr4
  have hlt := World.ownsRow.lt hown g' rfl
  have b4 : BelX (fun k => k = B ∨ hv0.ownBlock = some k) w.heap.size w w4 := by
    have h1 : BelX (fun k => k = B ∨ hv0.ownBlock = some k) w.heap.size W1 (W1.alloc o).drew := BelX.of (((Below.refl W1.heap.size W1).alloc (Nat.le_refl _) o).drew) hB.size
    exact (hB.trans h1).trans (BelX.grown hg (by show w.heap.size ≤ (W1.alloc o).heap.size; have := hB.size; simp; omega) (fun k e => (hv1 k e).elim (fun h => .inr (.inr h)) .inl))
  have g2 := grown_set2 w4 B 2 (.slice (some ⟨g', 0, none⟩) (hs.length + 1) cap')
  have g3 := grown_set2 (w4.setCell ⟨B, 2, none⟩ (.slice (some ⟨g', 0, none⟩) (hs.length + 1) cap')) B 1 (.int .i64 (came + 1))
  refine ⟨(hQ.set2 _).set1 _, ?_, (b4.trans (belx_set (i := 2) w4 _ (Or.inl rfl : B = B ∨ hv0.ownBlock = some B))).trans (belx_set (i := 1) _ _ (Or.inl rfl : B = B ∨ hv0.ownBlock = some B)), hlt.1, hlt.2, hne⟩
  have hk : HpRow base _ _ _ := World.ownsRow.kept (World.ownsRow.kept hr4 g2 (.inr (by simp [Value.ownBlock]; exact fun e => hne e.symm))) g3 (.inr (by simp [Value.ownBlock]; exact fun e => hne e.symm))
  exact hk

set_option maxRecDepth 100000 in
set_option maxHeartbeats 16000000 in
theorem add3_any {w : World} {base B : Nat} {va cv : Value} {st : List Hi × Int} {l : List It} {f : It → It → Int} {I : World → Prop} {hv0 : Value} (hbag : BagAt w B cv st.2 hv0) (hrow0 : HpRow base w hv0 st.1) (hbs0 : base ≤ w.heap.size) (ha : ItRd (fun g => g ≠ B ∧ hv0.ownBlock ≠ some g) w va l) (h1 : st.1.length + l.length ≤ 1099511627776) (h2 : 0 ≤ st.2) (h3 : st.2 ≤ 1099511627776) (hc : CmpIs I cv f) (hI : ∀ W, I W) :
    Calls Try.prog 7 #[.pointer (some ⟨B, 0, none⟩), va] w fun e w' => e = .returned (.tuple #[]) ∧ (∃ hv, BagAt w' B cv (adF f st l).2 hv ∧ HpRow base w' hv (adF f st l).1 ∧ ∀ k, hv.ownBlock = some k → hv0.ownBlock = some k ∨ w.heap.size ≤ k) ∧ BelX (fun k => k = B ∨ hv0.ownBlock = some k) w.heap.size w w' := by
  obtain ⟨cg, cl, rfl, eg, hcall⟩ := hc.val
  obtain ⟨ao, ca, rfl, hac, ham, hacl⟩ := ha
  unfold maxLen at ham
  have RA := hide hacl
  have HC := hide hc
  have HI := hide hI
  have hb0 := hbag
  have hr0 := hrow0
  have HBAG : Hid (∃ hv, BagAt w B (.func (.func cg) #[] cl) st.2 hv ∧ HpRow base w hv st.1 ∧ ∀ k, hv.ownBlock = some k → hv0.ownBlock = some k ∨ w.heap.size ≤ k) := hide ⟨hv0, hbag, hrow0, fun k h => .inl h⟩
  have c0 := hb0.cells.1
  have hBl := hb0.lt
  clear hacl hcall hI hb0 hr0 hbag hrow0
  obtain ⟨Z, hZ⟩ : ∃ Z, adF f st l = Z := ⟨_, rfl⟩
  rw [hZ]
  have HZ := hide hZ
  clear hZ
  go_enter Try.func7, Try.ntmps7
  go_wp2_with fail
  refine (there_any c0).mono ?_
  rintro e w' ⟨rfl, hw'⟩
  rw [hw']
  clear c0 hw' w'
  go_wp2
  go_loopw [11] (fun p wr => ∃ (i : Nat) (su : List Hi × Int), p = .int .i64 i ∧ i ≤ l.length ∧ Hid (∃ hv, BagAt wr B (.func (.func cg) #[] cl) su.2 hv ∧ HpRow base wr hv su.1 ∧ ∀ k, hv.ownBlock = some k → hv0.ownBlock = some k ∨ w.heap.size ≤ k) ∧ Hid (su.1.length = st.1.length + i ∧ su.2 = st.2 + i) ∧ Hid (adF f su (l.drop i) = Z) ∧ Hid (BelX (fun k => k = B ∨ hv0.ownBlock = some k) w.heap.size w wr)) (fun p _ => l.length - (intOf p).toNat)
  case atStart => exact ⟨0, st, rfl, by omega, HBAG, hide ⟨rfl, by omega⟩, hide (by simpa using HZ.out), hide (BelX.refl _ _ _)⟩
  case round =>
    obtain ⟨i, ⟨hs, came⟩, rfl, hi, hbg, hl, hz, hB⟩ := hrel
    by_cases hil : i < l.length
    · obtain ⟨ga, oa, rfl, ga1, ga2, hin⟩ := RA.out (by omega)
      have q1 : (i : Int) < (l.length : Int) := by omega
      obtain ⟨⟨x1, x2⟩, hx⟩ : ∃ x, l[i] = x := ⟨_, rfl⟩
      have HNX := hide (show adF f (ad1 f (hs, came) (x1, x2)) (l.drop (i + 1)) = Z by rw [← hz.out, List.drop_eq_getElem_cons hil, hx]; rfl)
      have qx := hin i hil
      rw [hx] at qx
      have hsame : ∀ o', wr.cell? ⟨ga, o', none⟩ = w.cell? ⟨ga, o', none⟩ := fun o' => by
        exact hB.out.cell (p := ⟨ga, o', none⟩) ga2 (fun e => e.elim ga1.1 ga1.2)
      have cx0 := (hsame _).trans qx.1
      have cx1 := (hsame _).trans qx.2
      clear hsame
      obtain ⟨hv, hba, hrw, hpl⟩ := hbg.out
      simp only at hba hrw
      have hle : hs.length + 1 ≤ 1099511627776 := by have := hl.out.1; simp only at this; omega
      have hce : 0 ≤ came ∧ came ≤ 2199023255552 := by have := hl.out.2; simp only at this; omega
      have hwb := hba.lt
      have hbs1 := hB.out.size
      obtain ⟨W1, hW1⟩ : ∃ u, wr.alloc (.cells #[.int .i64 x1, .int .i64 x2] 29) = u := ⟨_, rfl⟩
      have K1 : Below wr.heap.size wr W1 := by rw [← hW1]; exact (Below.refl _ wr).alloc (Nat.le_refl _) _
      have hs1 : W1.heap.size = wr.heap.size + 1 := by rw [← hW1]; simp
      have hx1 : W1.heap[wr.heap.size]? = some (.cells #[.int .i64 x1, .int .i64 x2] 29 (0, 0)) := by rw [← hW1]; exact heap_alloc_new wr _
      have ba1 : BagAt W1 B (.func (.func cg) #[] cl) came hv := hba.keep (K1.block _ hwb)
      have rw1 : HpRow base W1 hv hs := hrw.kept (ograwn K1) (by
        cases he : hv.ownBlock with
        | none => exact .inl rfl
        | some k => exact .inr (by simp))
      obtain ⟨ho, hcp, rfl, hc1, hc2, hgf⟩ := rw1.form
      have d1 := ba1.cells.2.1
      have d2 := ba1.cells.2.2
      have x0 := cell_of_row W1 _ 0 _ _ _ hx1
      have x1' := cell_of_row W1 _ 1 _ _ _ hx1
      simp at x0 x1'
      have A1 : ∀ o, (W1.alloc o).cell? ⟨B, 1, none⟩ = some (.int .i64 came) := fun o => (World.cell?_of_block (a := ⟨B, 1, none⟩) (Below.heap_alloc W1 o B ba1.lt)).trans d1
      have A2 : ∀ o, (W1.alloc o).cell? ⟨B, 2, none⟩ = some (.slice ho hs.length hcp) := fun o => (World.cell?_of_block (a := ⟨B, 2, none⟩) (Below.heap_alloc W1 o B ba1.lt)).trans d2
      have hbs : ∀ o, base ≤ ((W1.alloc o).drew).heap.size := fun o => by
        have : (W1.alloc o).drew.heap.size = W1.heap.size + 1 := by simp
        omega
      have hne := hv_ne ba1 rw1
      have BAL := hide (fun o => (show BagAt (W1.alloc o).drew B (.func (.func cg) #[] cl) came (.slice ho hs.length hcp) from ba1.keep (Below.heap_alloc W1 o B ba1.lt)))
      have HRW1 := hide rw1
      have HBA1 := hide ba1
      have HS1 := hide hs1
      have HK1 := hide K1
      have HPL := hide hpl
      clear hin qx hbg hz hba hrw hgf hx1 ba1 rw1 hs1 K1 hpl
      go_wp2
      first | go_region_law ((((refine step_append_at rfl (.tmp 19) (.tmp 26) 44 rfl base 48 _ 24 Try.underlying44 hiInfo (by rfl) (.slice ho hs.length hcp) hs.length (flat3 hs) (by rfl) (HRW1.out.alloc _) W1.heap.size 1 #[.int .i64 x1, .int .i64 x2, .int .i64 came] 48 (by rfl) (by rfl) (by exact heap_alloc_new _ _) (by intro u hu; simp at hu; rcases hu with rfl | rfl | rfl <;> rfl) (by unfold maxLen; omega) (by omega) (hbs _) ?_; intro g' cap' w4 hown' hgrow hat; have q := (BAL.out _).grown hgrow hne; have q0 := q.cells.1; have q1' := q.cells.2.1; have q2 := q.cells.2.2; have qf := q.frozen 2; have qg := q.frozen 1; have HQ := hide q; clear q)))) | fail "region"
      all_goals
        have M := add3_mem (x := (x1, x2)) (hB.out.trans (BelX.of HK1.out hbs1)) HPL.out HRW1.out HQ.out hown' hgrow
        obtain ⟨m1, m2, m3, m4, m5, m6⟩ := M
        have n2 := m1.cells.2.2
        have RS := hide (rise_any (I := I) m1.cells.1 m1.lt m6 (by simp; exact m5) m2 (by simp) (by omega) (by omega) HC.out (fun W k => HI.out W))
        have HM1 := hide m1
        have HM3 := hide m3
        clear m1 m2 m3 hown' hgrow
        go_wp2_with fail
        refine RS.out.mono ?_
        rintro e w7 ⟨rfl, r7, x7⟩
        rw [Nat.add_sub_cancel] at r7
        have hpl2 : hv0.ownBlock = some g' ∨ w.heap.size ≤ g' := by
          rcases hat with h | h
          · exact HPL.out g' h.symm
          · exact .inr (by have := HS1.out; simp at h; omega)
        have HG7 : Hid (∃ hv, BagAt w7 B (.func (.func cg) #[] cl) (ad1 f (hs, came) (x1, x2)).2 hv ∧ HpRow base w7 hv (ad1 f (hs, came) (x1, x2)).1 ∧ ∀ k, hv.ownBlock = some k → hv0.ownBlock = some k ∨ w.heap.size ≤ k) := hide ⟨_, HM1.out.keep (x7.block _ HM1.out.lt m6), r7, fun k hk => by cases hk; exact hpl2⟩
        have HB7 := hide (HM3.out.trans (x7.mono (m := w.heap.size) (Y := fun k => k = B ∨ hv0.ownBlock = some k) HM3.out.size (fun j hj e => by subst e; exact hpl2.elim (fun h => .inr h) (fun h => by omega))))
        clear r7 x7 RS HQ hat hpl2
        go_wp2
        go_roundw
        case rel => exact ⟨i + 1, _, by simp, by omega, HG7, hide ⟨by rw [ad1_len]; have := hl.out.1; simp only at this ⊢; omega, by have := hl.out.2; simp only [ad1] at this ⊢; omega⟩, HNX, HB7⟩
        case measure => simp [intOf]; omega
    · have q1 : ¬ (i : Int) < (l.length : Int) := by omega
      go_wp2
      go_end0
      refine ⟨rfl, ?_, hB.out⟩
      have := hz.out
      rw [List.drop_eq_nil_of_le (by omega)] at this
      rw [← this]
      exact hbg.out

end Go.Proofs.Ytboikfcmbfaaeaa
