/- OSort, OCmp, OSrch, OBag, ORise, OSink, OTake, OSortN, OSrtM, OTwA, OTw, OPlM, ORankM, ORefS, ONil, OTwNil, ORefF, ORefT -/
import Derived.Test.YtboikfcmbfaaeaaR03
import Derived.Laws.CopyOwn
namespace Go.Proofs.Ytboikfcmbfaaeaa
open Go.RowKit Go.Shelf
set_option linter.unusedVariables false

/-- the sizes of the runs doubled, till one run is left -/
def srt {α : Type} (f : α → α → Int) (s : Nat) (xs : List α) : List α :=
  if h : s < xs.length ∧ 0 < s then srt f (s * 2) (runs f s xs) else xs
termination_by xs.length - s
decreasing_by rw [runs_len]; omega
theorem srt_step {α : Type} (f : α → α → Int) {s : Nat} {xs : List α} (h : s < xs.length) (h0 : 0 < s) : srt f s xs = srt f (s * 2) (runs f s xs) := by rw [srt, dif_pos ⟨h, h0⟩]
theorem srt_end {α : Type} (f : α → α → Int) {s : Nat} {xs : List α} (h : ¬ s < xs.length) : srt f s xs = xs := by rw [srt, dif_neg (fun e => h e.1)]
theorem srt_len {α : Type} (f : α → α → Int) (s : Nat) (xs : List α) : (srt f s xs).length = xs.length := by
  fun_induction srt f s xs with
  | case1 s xs h ih => rw [ih, runs_len]
  | case2 s xs h => rfl
/-- lists in memory of their own -/
def Own12 (B : Nat) (w : World) (v : Value) (xs : List It) : Prop := (xs = [] ∧ v = .slice none 0 0) ∨ ∃ g, v = .slice (some ⟨g, 0, none⟩) xs.length xs.length ∧ B ≤ g ∧ ItRow w g xs ∧ xs.length ≤ maxLen
theorem Own12.rd {B : Nat} {w : World} {v : Value} {xs : List It} (h : Own12 B w v xs) : ItRd (fun g => B ≤ g) w v xs := by
  rcases h with ⟨rfl, rfl⟩ | ⟨g, rfl, h1, h2, h3⟩
  · exact ⟨none, 0, rfl, Nat.le_refl _, by unfold maxLen; omega, fun h => absurd h (by simp)⟩
  · exact h2.rd h1 (Nat.le_refl _) h3
set_option maxRecDepth 100000 in
theorem itinfoM : (Try.prog.info? 29).map (fun i => (i.zero, i.size, i.bytes)) = some (some (.agg #[.int .i64 0, .int .i64 0]), 2, 16) := by kernel_rfl
set_option maxRecDepth 100000 in
theorem itdesc : ∃ a b c, Try.prog.underlying 30 = some (.func a b c) := ⟨#[29, 29], #[3], false, by kernel_rfl⟩
set_option maxRecDepth 100000 in
theorem itinfoC : (Try.prog.info? 29).map (·.size) = some 2 := by kernel_rfl
theorem flat_zeros (n : Nat) : flat (List.replicate n ((0, 0) : It)) = List.replicate (n * 2) (.int .i64 0) := by
  induction n with
  | zero => rfl
  | succ n ih => rw [List.replicate_succ, flat_cons, ih, show (n + 1) * 2 = n * 2 + 1 + 1 by omega, List.replicate_succ, List.replicate_succ]
theorem made_items (n : Nat) : madeCells #[Value.int .i64 0, Value.int .i64 0] (n * 2) = (flat (List.replicate n ((0, 0) : It))).toArray := by
  rw [flat_zeros]
  apply Array.ext
  · simp [madeCells]
  · intro i h1 h2
    simp only [madeCells, Array.getElem_map, Array.getElem_range, List.getElem_toArray, List.getElem_replicate]
    rcases (show i % 2 = 0 ∨ i % 2 = 1 by omega) with e | e <;> simp [e]
theorem mk_items {n : Nat} (hn : n ≤ 8796093022208) (w : World) : (Instr.makeSlice 22 (.int .i64 (n : Int)) (.int .i64 (n : Int))).run Try.prog w = .ok (.slice (some ⟨w.heap.size, 0, none⟩) n n) (w.alloc (.cells (flat (List.replicate n ((0, 0) : It))).toArray 29)) := by
  obtain ⟨i0, hi, hz0, hz1, hz2⟩ := info_parts itinfoM
  have := run_make (P := Try.prog) w 22 29 i0 _ Try.underlying22 hi hz0 .i64 .i64 n n (by omega) (Int.le_refl _) (by rw [hz2]; omega) (by omega)
  rw [this, hz1]
  simp only [Int.toNat_natCast]
  rw [show (Value.agg #[Value.int .i64 0, Value.int .i64 0]).cells = #[Value.int .i64 0, Value.int .i64 0] from rfl, made_items]
theorem ofunc_nil {t : TypeId} (h : ∃ a b c, Try.prog.underlying t = some (.func a b c)) (w : World) (f : Fn) (a c : Array Value) : (binOp .eql t (.func f a c) .nilFunc).run Try.prog w = .ok (.bool false) w := by
  obtain ⟨x, y, z, h⟩ := h
  have e : (Op.equalIn (Op.maxDepth - 1 + 1) t (.func f a c) .nilFunc).run Try.prog w = .ok false w := by simp [Op.equalIn, run_underlying h]
  rw [show Op.maxDepth - 1 + 1 = Op.maxDepth from rfl] at e
  simp [binOp, Op.equal, e]
theorem flat_one (xs : List It) : ∀ v ∈ flat xs, v.oneCell' = true := by
  intro v hv
  simp only [flat, List.mem_flatMap] at hv
  obtain ⟨x, _, hv⟩ := hv
  simp at hv
  rcases hv with rfl | rfl <;> rfl
theorem run_copy_items (w : World) (ty : TypeId) (g o dLen dCap : Nat) (a : Addr) (sLen sCap : Nat) (cur : Array Value) (t : TypeId) (cs : List Value) (hg : w.heap[g]? = some (.cells cur t (0, 0))) (hn : cs.length = Nat.min sLen dLen * 2)
    (hsrc : ∀ j v, cs[j]? = some v → w.cell? (a.add j) = some v) (hfit : o + cs.length ≤ cur.size) (h1 : ∀ v ∈ cs, v.oneCell' = true) :
    (Builtin.copy_ #[22, 22] ty #[.slice (some ⟨g, o, none⟩) dLen dCap, .slice (some a) sLen sCap]).run Try.prog w = .ok (goInt (Nat.min sLen dLen)) (w.setRow g (cur.toList.take o ++ cs ++ cur.toList.drop (o + cs.length)).toArray) := by
  have hl := run_loadCells_list (P := Try.prog) w a cs hsrc
  have hst := run_storeCells_at Try.prog g o t cs 0 cur w hg (by simpa using hfit) h1
  have hs := itinfoC
  cases hq : Try.prog.info? 29 with
  | none => simp [hq] at hs
  | some i =>
    have hi : i.size = 2 := by simpa [hq] using hs
    simp [Builtin.copy_, run_underlying Try.underlying22, Builtin.lenOf, Builtin.firstCells, sizeOf, typeInfo, hq, hi, ← hn, hl, hst]
theorem itcopy_new {w W : World} {g : Nat} {ao : Option Addr} {ca : Nat} {xs zs : List It} (hB : Below w.heap.size w W) (hr : ItRow W g zs) (hz : zs.length = xs.length) (ha : ItRd (fun _ => True) w (.slice ao xs.length ca) xs) (hg : w.heap.size ≤ g) (h0 : 0 < xs.length) :
    ∃ W3, (Builtin.copy_ #[22, 22] 3 #[.slice (some ⟨g, 0, none⟩) xs.length xs.length, .slice ao xs.length ca]).run Try.prog W = .ok (.int .i64 xs.length) W3 ∧ ItRow W3 g xs ∧ W.grownBy W3 (some g) := by
  obtain ⟨ao', cap, e, h1, h2, h3⟩ := ha
  obtain ⟨_, _⟩ : ao = ao' ∧ ca = cap := by injection e; exact ⟨by assumption, by assumption⟩
  subst ao' cap
  obtain ⟨b, off, rfl, _, hb, hi⟩ := h3 h0
  have hrun := run_copy_items W 3 g 0 xs.length xs.length ⟨b, off, none⟩ xs.length ca _ 29 (flat xs) hr (by rw [flat_len, show Nat.min xs.length xs.length = xs.length from Nat.min_self _]) ?_ (by simp [flat_len, hz]) (flat_one xs)
  · refine ⟨_, hrun.trans (by rw [show Nat.min xs.length xs.length = xs.length from Nat.min_self _]; rfl), ?_, ?_⟩
    · unfold ItRow
      rw [setRow_heap _ _ _ _ _ _ hr]
      have : (flat zs).drop (flat xs).length = [] := List.drop_eq_nil_of_le (by rw [flat_len, flat_len, hz]; exact Nat.le_refl _)
      simp [this]
    · exact ⟨rfl, rfl, rfl, by simp [World.setRow], fun k _ hk => setRow_other W g k _ (fun e => hk (by rw [e]))⟩
  · intro j v hj
    have hjl : j < (flat xs).length := (List.getElem?_eq_some_iff.1 hj).1
    rw [flat_len] at hjl
    have q := hi (j / 2) (by omega)
    have fg := flat_get xs (j / 2) (by omega)
    rw [Addr.add_lit]
    rcases (show j % 2 = 0 ∨ j % 2 = 1 by omega) with e | e
    · have ej : j = j / 2 * 2 := by omega
      rw [ej, fg.1] at hj
      rw [ej, ← hj]
      exact (hB.cell (p := ⟨b, _, none⟩) hb).trans q.1
    · have ej : j = j / 2 * 2 + 1 := by omega
      rw [ej, fg.2] at hj
      rw [ej, ← hj, ← Nat.add_assoc]
      exact (hB.cell (p := ⟨b, _, none⟩) hb).trans q.2
set_option maxRecDepth 100000 in
set_option maxHeartbeats 8000000 in
theorem itsort_any {w : World} {va cv : Value} {xs : List It} {I : World → Prop} {f : It → It → Int} (hx : xs.length ≤ 8796093022208) (ha : ItRd (fun _ => True) w va xs) (hc : CmpIs I cv f) (hIw : I w) (hI : ∀ W W', I W → Below w.heap.size W W' → I W') :
    Calls Try.prog 11 #[va, cv] w fun e w' => (∃ v, e = .returned v ∧ Own12 w.heap.size w' v (srt f 1 xs)) ∧ Below w.heap.size w w' := by
  have hcc := hc
  obtain ⟨cg, cl, rfl, eg, hcall⟩ := hc.val
  have haa := ha
  obtain ⟨ao, ca, rfl, hac, ham, hacl⟩ := ha
  have HA := hide haa
  have HCC := hide hcc
  have HIw := hide hIw
  have HI := hide hI
  have HACL := hide hacl
  unfold maxLen at ham
  clear hcc hc hcall haa hacl hIw hI
  have hfn : ∀ (w : World) f a c, (binOp .eql 30 (.func f a c) .nilFunc).run Try.prog w = .ok (.bool false) w := ofunc_nil itdesc
  have mk := mk_items (n := xs.length) hx
  by_cases h0 : xs.length = 0
  · have q0 : ((xs.length : Int) == 0) = true := by rw [h0]; rfl
    go_enter Try.func11, Try.ntmps11
    go_wp2
    go_ret
    exact ⟨⟨_, rfl, .inl ⟨List.eq_nil_of_length_eq_zero (by rw [srt_len, h0]), rfl⟩⟩, Below.refl _ _⟩
  · have q0 : ((xs.length : Int) == 0) = false := by rw [beq_eq_false_iff_ne]; omega
    go_enter Try.func11, Try.ntmps11
    go_wp2
    go_region
    · skip
      obtain ⟨W2, hW2⟩ : ∃ u, ((w.alloc (.cells (flat (List.replicate xs.length ((0, 0) : It))).toArray 29)).alloc (.cells (flat (List.replicate xs.length ((0, 0) : It))).toArray 29)).drew = u := ⟨_, rfl⟩
      have r1 : ItRow W2 w.heap.size (List.replicate xs.length ((0, 0) : It)) := by rw [← hW2]; exact (Below.heap_alloc (w.alloc (.cells (flat (List.replicate xs.length ((0, 0) : It))).toArray 29)) _ w.heap.size (by simp)).trans (heap_alloc_new w _)
      have r2 : ItRow W2 (w.heap.size + 1) (List.replicate xs.length ((0, 0) : It)) := by
        rw [← hW2]
        have := heap_alloc_new (w.alloc (.cells (flat (List.replicate xs.length ((0, 0) : It))).toArray 29)) (.cells (flat (List.replicate xs.length ((0, 0) : It))).toArray 29)
        rw [World.size_alloc] at this
        exact this
      have hB2 : Below w.heap.size w W2 := by rw [← hW2]; exact (((Below.refl _ w).alloc (Nat.le_refl _) _).alloc (by simp) _).drew
      rw [hW2]
      clear hW2 mk
      obtain ⟨W3, hcp, r3, hg3⟩ := itcopy_new (g := w.heap.size) (w := w) hB2 r1 (by simp) HA.out (by omega) (by omega)
      have r4 : ItRow W3 (w.heap.size + 1) (List.replicate xs.length ((0, 0) : It)) := r2.keep (hg3.block _ r2.lt (by simp))
      have hB3 : Below w.heap.size w W3 := hB2.grown hg3 hB2.size (fun k e => by cases e; omega)
      have R3 := hide r3
      have R4 := hide r4
      have HB3 := hide hB3
      clear r1 r2 r3 r4 hB2 hB3 hg3
      go_wp2
      go_loopw [5, 6, 7] (fun fv iv sv wr => ∃ (a b s : Nat) (ys zs : List It), fv = .slice (some ⟨a, 0, none⟩) xs.length xs.length ∧ iv = .slice (some ⟨b, 0, none⟩) xs.length xs.length ∧ sv = .int .i64 s ∧ a ≠ b ∧ w.heap.size ≤ a ∧ w.heap.size ≤ b ∧ 0 < s ∧ s ≤ 17592186044416 ∧ Hid (ItRow wr a ys ∧ ItRow wr b zs ∧ ys.length = xs.length ∧ zs.length = xs.length ∧ srt f s ys = srt f 1 xs ∧ Below w.heap.size w wr)) (fun _ _ sv _ => xs.length - (intOf sv).toNat)
      case atStart => exact ⟨w.heap.size, w.heap.size + 1, 1, xs, _, rfl, rfl, rfl, by omega, by omega, by omega, by omega, by omega, hide ⟨R3.out, R4.out, rfl, by simp, rfl, HB3.out⟩⟩
      case round =>
        obtain ⟨a, b, s, ys, zs, rfl, rfl, rfl, hab, ha, hb, hs0, hs1, H⟩ := hrel
        clear R3 R4 HB3
        by_cases hsl : s < xs.length
        · have q1 : (s : Int) < (xs.length : Int) := by omega
          have c := itruns_any (w := wr) (gi := b) (ci := xs.length) (s := s) (xs := ys) (ws := zs) (I := I) (f := f) hs0 (by omega) (by rw [H.out.2.2.1]; omega) H.out.2.1 (by rw [H.out.2.2.1, H.out.2.2.2.1]) (by rw [H.out.2.2.1]; exact Nat.le_refl _) (by unfold maxLen; omega) (H.out.1.rd hab (Nat.le_refl _) (by rw [H.out.2.2.1]; unfold maxLen; omega)) HCC.out (HI.out _ _ HIw.out H.out.2.2.2.2.2) (fun U U' h kk => HI.out U U' h (kk.below H.out.2.2.2.2.2.size (fun k hk e => by omega)))
          rw [H.out.2.2.1] at c
          have HC := hide c
          clear c
          go_wp2_with fail
          refine HC.out.mono ?_
          rintro e w1 ⟨rfl, k1, k2⟩
          have H2 : Hid (ItRow w1 b (runs f s ys) ∧ ItRow w1 a ys ∧ (runs f s ys).length = xs.length ∧ ys.length = xs.length ∧ srt f (s * 2) (runs f s ys) = srt f 1 xs ∧ Below w.heap.size w w1) := hide ⟨k1, H.out.1.keep (k2.block _ H.out.1.lt hab), by rw [runs_len, H.out.2.2.1], H.out.2.2.1, by rw [← H.out.2.2.2.2.1, srt_step f (s := s) (by rw [H.out.2.2.1]; exact hsl) hs0], H.out.2.2.2.2.2.trans (k2.below (B := w.heap.size) H.out.2.2.2.2.2.size (fun k hk e => by omega))⟩
          clear k1 k2 HC H
          go_wp2
          go_roundw
          case rel => exact ⟨b, a, s * 2, _, _, rfl, rfl, by simp, fun e => hab e.symm, hb, ha, by omega, by omega, H2⟩
          case measure => simp [intOf]; omega
        · have q1 : ¬ (s : Int) < (xs.length : Int) := by omega
          go_wp2
          go_ret
          refine ⟨⟨_, rfl, .inr ⟨a, ?_, ha, ?_, ?_⟩⟩, H.out.2.2.2.2.2⟩
          · rw [srt_len]; rfl
          · rw [← H.out.2.2.2.2.1, srt_end f (by rw [H.out.2.2.1]; exact hsl)]; exact H.out.1
          · rw [srt_len]; unfold maxLen; omega
    · skip
      obtain ⟨W2, hW2⟩ : ∃ u, ((w.alloc (.cells (flat (List.replicate xs.length ((0, 0) : It))).toArray 29)).alloc (.cells (flat (List.replicate xs.length ((0, 0) : It))).toArray 29)).drew = u := ⟨_, rfl⟩
      have r1 : ItRow W2 w.heap.size (List.replicate xs.length ((0, 0) : It)) := by rw [← hW2]; exact (Below.heap_alloc (w.alloc (.cells (flat (List.replicate xs.length ((0, 0) : It))).toArray 29)) _ w.heap.size (by simp)).trans (heap_alloc_new w _)
      have r2 : ItRow W2 (w.heap.size + 1) (List.replicate xs.length ((0, 0) : It)) := by
        rw [← hW2]
        have := heap_alloc_new (w.alloc (.cells (flat (List.replicate xs.length ((0, 0) : It))).toArray 29)) (.cells (flat (List.replicate xs.length ((0, 0) : It))).toArray 29)
        rw [World.size_alloc] at this
        exact this
      have hB2 : Below w.heap.size w W2 := by rw [← hW2]; exact (((Below.refl _ w).alloc (Nat.le_refl _) _).alloc (by simp) _).drew
      rw [hW2]
      clear hW2 mk
      obtain ⟨W3, hcp, r3, hg3⟩ := itcopy_new (g := w.heap.size + 1) (w := w) hB2 r2 (by simp) HA.out (by omega) (by omega)
      have r4 : ItRow W3 (w.heap.size) (List.replicate xs.length ((0, 0) : It)) := r1.keep (hg3.block _ r1.lt (by simp))
      have hB3 : Below w.heap.size w W3 := hB2.grown hg3 hB2.size (fun k e => by cases e; omega)
      have R3 := hide r3
      have R4 := hide r4
      have HB3 := hide hB3
      clear r1 r2 r3 r4 hB2 hB3 hg3
      go_wp2
      go_loopw [5, 6, 7] (fun fv iv sv wr => ∃ (a b s : Nat) (ys zs : List It), fv = .slice (some ⟨a, 0, none⟩) xs.length xs.length ∧ iv = .slice (some ⟨b, 0, none⟩) xs.length xs.length ∧ sv = .int .i64 s ∧ a ≠ b ∧ w.heap.size ≤ a ∧ w.heap.size ≤ b ∧ 0 < s ∧ s ≤ 17592186044416 ∧ Hid (ItRow wr a ys ∧ ItRow wr b zs ∧ ys.length = xs.length ∧ zs.length = xs.length ∧ srt f s ys = srt f 1 xs ∧ Below w.heap.size w wr)) (fun _ _ sv _ => xs.length - (intOf sv).toNat)
      case atStart => exact ⟨w.heap.size + 1, w.heap.size, 1, xs, _, rfl, rfl, rfl, by omega, by omega, by omega, by omega, by omega, hide ⟨R3.out, R4.out, rfl, by simp, rfl, HB3.out⟩⟩
      case round =>
        obtain ⟨a, b, s, ys, zs, rfl, rfl, rfl, hab, ha, hb, hs0, hs1, H⟩ := hrel
        clear R3 R4 HB3
        by_cases hsl : s < xs.length
        · have q1 : (s : Int) < (xs.length : Int) := by omega
          have c := itruns_any (w := wr) (gi := b) (ci := xs.length) (s := s) (xs := ys) (ws := zs) (I := I) (f := f) hs0 (by omega) (by rw [H.out.2.2.1]; omega) H.out.2.1 (by rw [H.out.2.2.1, H.out.2.2.2.1]) (by rw [H.out.2.2.1]; exact Nat.le_refl _) (by unfold maxLen; omega) (H.out.1.rd hab (Nat.le_refl _) (by rw [H.out.2.2.1]; unfold maxLen; omega)) HCC.out (HI.out _ _ HIw.out H.out.2.2.2.2.2) (fun U U' h kk => HI.out U U' h (kk.below H.out.2.2.2.2.2.size (fun k hk e => by omega)))
          rw [H.out.2.2.1] at c
          have HC := hide c
          clear c
          go_wp2_with fail
          refine HC.out.mono ?_
          rintro e w1 ⟨rfl, k1, k2⟩
          have H2 : Hid (ItRow w1 b (runs f s ys) ∧ ItRow w1 a ys ∧ (runs f s ys).length = xs.length ∧ ys.length = xs.length ∧ srt f (s * 2) (runs f s ys) = srt f 1 xs ∧ Below w.heap.size w w1) := hide ⟨k1, H.out.1.keep (k2.block _ H.out.1.lt hab), by rw [runs_len, H.out.2.2.1], H.out.2.2.1, by rw [← H.out.2.2.2.2.1, srt_step f (s := s) (by rw [H.out.2.2.1]; exact hsl) hs0], H.out.2.2.2.2.2.trans (k2.below (B := w.heap.size) H.out.2.2.2.2.2.size (fun k hk e => by omega))⟩
          clear k1 k2 HC H
          go_wp2
          go_roundw
          case rel => exact ⟨b, a, s * 2, _, _, rfl, rfl, by simp, fun e => hab e.symm, hb, ha, by omega, by omega, H2⟩
          case measure => simp [intOf]; omega
        · have q1 : ¬ (s : Int) < (xs.length : Int) := by omega
          go_wp2
          go_ret
          refine ⟨⟨_, rfl, .inr ⟨a, ?_, ha, ?_, ?_⟩⟩, H.out.2.2.2.2.2⟩
          · rw [srt_len]; rfl
          · rw [← H.out.2.2.2.2.1, srt_end f (by rw [H.out.2.2.1]; exact hsl)]; exact H.out.1
          · rw [srt_len]; unfold maxLen; omega

end Go.Proofs.Ytboikfcmbfaaeaa

namespace Go.Proofs.Ytboikfcmbfaaeaa
open Go.RowKit Go.Shelf
set_option linter.unusedVariables false
set_option linter.unusedSimpArgs false

def oSz (x : Int) : Int := if x < 0 then IntKind.u64.wrap (wrap64 (-x)) else IntKind.u64.wrap x
def oUp (x : Int) : Int := IntKind.u64.wrap (IntKind.u64.wrap x + 9223372036854775808)
def oRs (x : Int) : Int := (IntKind.u64.wrap x).tmod 4
/-- what the orders look at -/
def oKey (o : Int) (x : Int) : Int := if o = 0 ∨ o = 2 then oUp x else if o = 1 then oSz x else if o = 3 then oRs x else 0
def oSgn (x y : Int) : Int := if x < y then -1 else if y < x then 1 else 0
def ocmp (o : Int) (a b : It) : Int := if o = 2 then - oSgn (oKey o a.1) (oKey o b.1) else oSgn (oKey o a.1) (oKey o b.1)

set_option maxRecDepth 100000 in
set_option maxHeartbeats 4000000 in
theorem osize_any {w : World} {x : Int} : Calls Try.prog 33 #[.int .i64 x] w fun e w' => e = .returned (.int .u64 (oSz x)) ∧ w' = w := by
  by_cases h : x < 0
  · have d : decide (x < 0) = true := by simpa using h
    have H := hide h
    go_enter Try.func33, Try.ntmps33
    go_wp2
    go_ret
    exact ⟨by rw [oSz, if_pos H.out]; rfl, rfl⟩
  · have d : decide (x < 0) = false := by simpa using h
    have H := hide h
    go_enter Try.func33, Try.ntmps33
    go_wp2
    go_ret
    exact ⟨by rw [oSz, if_neg (by have := H.out; omega)]; rfl, rfl⟩

set_option maxRecDepth 100000 in
set_option maxHeartbeats 8000000 in
theorem ocmp_any {w : World} {o : Int} {a b : It} : Calls Try.prog 27 #[.int .i64 o, itV a, itV b] w fun e w' => e = .returned (.int .i64 (ocmp o a b)) ∧ Below w.heap.size w w' := by
  obtain ⟨a1, a2⟩ := a
  obtain ⟨b1, b2⟩ := b
  have K2 : Hid (Below w.heap.size w ((w.alloc (.cells #[.int .i64 a1, .int .i64 a2] 29)).alloc (.cells #[.int .i64 b1, .int .i64 b2] 29))) := hide (((Below.refl _ w).alloc (Nat.le_refl _) _).alloc (by simp) _)
  obtain ⟨W2, hW2⟩ : ∃ u, (w.alloc (.cells #[.int .i64 a1, .int .i64 a2] 29)).alloc (.cells #[.int .i64 b1, .int .i64 b2] 29) = u := ⟨_, rfl⟩
  have c1 : W2.cell? ⟨w.heap.size, 0, none⟩ = some (.int .i64 a1) := by rw [← hW2]; simp
  have c2 : W2.cell? ⟨w.heap.size + 1, 0, none⟩ = some (.int .i64 b1) := by rw [← hW2]; simp
  rw [hW2] at K2
  have HS := hide (fun (x : Int) (u : World) => osize_any (w := u) (x := x))
  by_cases h0 : o = 0
  · subst h0
    obtain ⟨X, hX⟩ : ∃ X, IntKind.u64.wrap (IntKind.u64.wrap a1 + 9223372036854775808) = X := ⟨_, rfl⟩
    obtain ⟨Y, hY⟩ : ∃ Y, IntKind.u64.wrap (IntKind.u64.wrap b1 + 9223372036854775808) = Y := ⟨_, rfl⟩
    have HO : Hid (ocmp 0 (a1, a2) (b1, b2) = oSgn X Y) := hide (by rw [← hX, ← hY]; rfl)
    by_cases hlt : X < Y
    · have d1 : decide (X < Y) = true := by simpa using hlt
      have d2 : decide (Y < X) = false := by simp; omega
      have HR : Hid (oSgn X Y = -1) := hide (by rw [oSgn, if_pos hlt])
      clear hlt
      go_enter Try.func27, Try.ntmps27
      go_wp2
      go_quiet (fail)
      go_wp2
      go_ret
      exact ⟨by rw [HO.out, HR.out]; rfl, K2.out.trans ((obel_drewN W2 _).mono K2.out.size)⟩
    · by_cases hgt : Y < X
      · have d1 : decide (X < Y) = false := by simpa using hlt
        have d2 : decide (Y < X) = true := by simpa using hgt
        have HR : Hid (oSgn X Y = 1) := hide (by rw [oSgn, if_neg hlt, if_pos hgt])
        clear hlt hgt
        go_enter Try.func27, Try.ntmps27
        go_wp2
        go_quiet (fail)
        go_wp2
        go_ret
        exact ⟨by rw [HO.out, HR.out]; rfl, K2.out.trans ((obel_drewN W2 _).mono K2.out.size)⟩
      · have d1 : decide (X < Y) = false := by simpa using hlt
        have d2 : decide (Y < X) = false := by simpa using hgt
        have HR : Hid (oSgn X Y = 0) := hide (by rw [oSgn, if_neg hlt, if_neg hgt])
        clear hlt hgt
        go_enter Try.func27, Try.ntmps27
        go_wp2
        go_quiet (fail)
        go_wp2
        go_ret
        exact ⟨by rw [HO.out, HR.out]; rfl, K2.out.trans ((obel_drewN W2 _).mono K2.out.size)⟩
  · by_cases h2 : o = 2
    · subst h2
      obtain ⟨X, hX⟩ : ∃ X, IntKind.u64.wrap (IntKind.u64.wrap a1 + 9223372036854775808) = X := ⟨_, rfl⟩
      obtain ⟨Y, hY⟩ : ∃ Y, IntKind.u64.wrap (IntKind.u64.wrap b1 + 9223372036854775808) = Y := ⟨_, rfl⟩
      have HO : Hid (ocmp 2 (a1, a2) (b1, b2) = - oSgn X Y) := hide (by rw [← hX, ← hY]; rfl)
      by_cases hlt : X < Y
      · have d1 : decide (X < Y) = true := by simpa using hlt
        have d2 : decide (Y < X) = false := by simp; omega
        have HR : Hid (oSgn X Y = -1) := hide (by rw [oSgn, if_pos hlt])
        clear hlt
        go_enter Try.func27, Try.ntmps27
        go_wp2
        go_quiet (fail)
        go_wp2
        go_ret
        exact ⟨by rw [HO.out, HR.out]; rfl, K2.out.trans ((obel_drewN W2 _).mono K2.out.size)⟩
      · by_cases hgt : Y < X
        · have d1 : decide (X < Y) = false := by simpa using hlt
          have d2 : decide (Y < X) = true := by simpa using hgt
          have HR : Hid (oSgn X Y = 1) := hide (by rw [oSgn, if_neg hlt, if_pos hgt])
          clear hlt hgt
          go_enter Try.func27, Try.ntmps27
          go_wp2
          go_quiet (fail)
          go_wp2
          go_ret
          exact ⟨by rw [HO.out, HR.out]; rfl, K2.out.trans ((obel_drewN W2 _).mono K2.out.size)⟩
        · have d1 : decide (X < Y) = false := by simpa using hlt
          have d2 : decide (Y < X) = false := by simpa using hgt
          have HR : Hid (oSgn X Y = 0) := hide (by rw [oSgn, if_neg hlt, if_neg hgt])
          clear hlt hgt
          go_enter Try.func27, Try.ntmps27
          go_wp2
          go_quiet (fail)
          go_wp2
          go_ret
          exact ⟨by rw [HO.out, HR.out]; rfl, K2.out.trans ((obel_drewN W2 _).mono K2.out.size)⟩
    · by_cases h1 : o = 1
      · subst h1
        obtain ⟨X, hX⟩ : ∃ X, oSz a1 = X := ⟨_, rfl⟩
        obtain ⟨Y, hY⟩ : ∃ Y, oSz b1 = Y := ⟨_, rfl⟩
        have HO : Hid (ocmp 1 (a1, a2) (b1, b2) = oSgn X Y) := hide (by rw [← hX, ← hY]; rfl)
        by_cases hlt : X < Y
        · have d1 : decide (X < Y) = true := by simpa using hlt
          have d2 : decide (Y < X) = false := by simp; omega
          have HR : Hid (oSgn X Y = -1) := hide (by rw [oSgn, if_pos hlt])
          clear hlt
          go_enter Try.func27, Try.ntmps27
          go_wp2
          go_quiet ((go_at_call 33; exact Calls.quiet_of_same (HS.out _ _)))
          go_wp2
          go_ret
          exact ⟨by rw [HO.out, HR.out]; rfl, K2.out.trans ((obel_drewN W2 _).mono K2.out.size)⟩
        · by_cases hgt : Y < X
          · have d1 : decide (X < Y) = false := by simpa using hlt
            have d2 : decide (Y < X) = true := by simpa using hgt
            have HR : Hid (oSgn X Y = 1) := hide (by rw [oSgn, if_neg hlt, if_pos hgt])
            clear hlt hgt
            go_enter Try.func27, Try.ntmps27
            go_wp2
            go_quiet ((go_at_call 33; exact Calls.quiet_of_same (HS.out _ _)))
            go_wp2
            go_ret
            exact ⟨by rw [HO.out, HR.out]; rfl, K2.out.trans ((obel_drewN W2 _).mono K2.out.size)⟩
          · have d1 : decide (X < Y) = false := by simpa using hlt
            have d2 : decide (Y < X) = false := by simpa using hgt
            have HR : Hid (oSgn X Y = 0) := hide (by rw [oSgn, if_neg hlt, if_neg hgt])
            clear hlt hgt
            go_enter Try.func27, Try.ntmps27
            go_wp2
            go_quiet ((go_at_call 33; exact Calls.quiet_of_same (HS.out _ _)))
            go_wp2
            go_ret
            exact ⟨by rw [HO.out, HR.out]; rfl, K2.out.trans ((obel_drewN W2 _).mono K2.out.size)⟩
      · by_cases h3 : o = 3
        · subst h3
          obtain ⟨X, hX⟩ : ∃ X, (IntKind.u64.wrap a1).tmod 4 = X := ⟨_, rfl⟩
          obtain ⟨Y, hY⟩ : ∃ Y, (IntKind.u64.wrap b1).tmod 4 = Y := ⟨_, rfl⟩
          have HO : Hid (ocmp 3 (a1, a2) (b1, b2) = oSgn X Y) := hide (by rw [← hX, ← hY]; rfl)
          by_cases hlt : X < Y
          · have d1 : decide (X < Y) = true := by simpa using hlt
            have d2 : decide (Y < X) = false := by simp; omega
            have HR : Hid (oSgn X Y = -1) := hide (by rw [oSgn, if_pos hlt])
            clear hlt
            go_enter Try.func27, Try.ntmps27
            go_wp2
            go_quiet (fail)
            go_wp2
            go_ret
            exact ⟨by rw [HO.out, HR.out]; rfl, K2.out.trans ((obel_drewN W2 _).mono K2.out.size)⟩
          · by_cases hgt : Y < X
            · have d1 : decide (X < Y) = false := by simpa using hlt
              have d2 : decide (Y < X) = true := by simpa using hgt
              have HR : Hid (oSgn X Y = 1) := hide (by rw [oSgn, if_neg hlt, if_pos hgt])
              clear hlt hgt
              go_enter Try.func27, Try.ntmps27
              go_wp2
              go_quiet (fail)
              go_wp2
              go_ret
              exact ⟨by rw [HO.out, HR.out]; rfl, K2.out.trans ((obel_drewN W2 _).mono K2.out.size)⟩
            · have d1 : decide (X < Y) = false := by simpa using hlt
              have d2 : decide (Y < X) = false := by simpa using hgt
              have HR : Hid (oSgn X Y = 0) := hide (by rw [oSgn, if_neg hlt, if_neg hgt])
              clear hlt hgt
              go_enter Try.func27, Try.ntmps27
              go_wp2
              go_quiet (fail)
              go_wp2
              go_ret
              exact ⟨by rw [HO.out, HR.out]; rfl, K2.out.trans ((obel_drewN W2 _).mono K2.out.size)⟩
        · have HO : Hid (ocmp o (a1, a2) (b1, b2) = 0) := hide (by simp [ocmp, oKey, h0, h1, h2, h3, oSgn])
          have g0 : (o == 0) = false := by simpa using h0
          have g1 : (o == 1) = false := by simpa using h1
          have g2 : (o == 2) = false := by simpa using h2
          have g3 : (o == 3) = false := by simpa using h3
          clear h0 h1 h2 h3
          go_enter Try.func27, Try.ntmps27
          go_wp2
          go_ret
          exact ⟨by rw [HO.out]; rfl, K2.out⟩

theorem ocmp_in (o : Int) (a b : It) : ocmp o a b = -1 ∨ ocmp o a b = 0 ∨ ocmp o a b = 1 := by
  unfold ocmp oSgn
  split <;> split <;> (try split) <;> simp

set_option maxRecDepth 100000 in
set_option maxHeartbeats 4000000 in
theorem byKey_is : CmpIs (fun _ => True) (.func (.func 16) #[] #[]) (fun a b => ocmp 0 a b) := by
  refine ⟨_, _, rfl, enters_of Try.func16 (by kernel_rfl) rfl, fun W a b _ => ?_⟩
  have HC := hide (fun (u : World) (c d : It) => ocmp_any (w := u) (o := 0) (a := c) (b := d))
  have hin := ocmp_in 0 a b
  obtain ⟨z, hz⟩ : ∃ z, ocmp 0 a b = z := ⟨_, rfl⟩
  have HZ := hide hz
  rw [hz] at hin ⊢
  clear hz
  obtain ⟨a1, a2⟩ := a
  obtain ⟨b1, b2⟩ := b
  have K2 : Hid (Below W.heap.size W ((W.alloc (.cells #[.int .i64 a1, .int .i64 a2] 29)).alloc (.cells #[.int .i64 b1, .int .i64 b2] 29))) := hide (((Below.refl _ W).alloc (Nat.le_refl _) _).alloc (by simp) _)
  show Calls Try.prog 16 #[itV (a1, a2), itV (b1, b2)] W _
  go_enter Try.func16, Try.ntmps16
  go_wp2_with fail
  refine (HC.out _ (a1, a2) (b1, b2)).mono ?_
  rintro e w1 ⟨rfl, k1⟩
  rw [HZ.out]
  have K3 := hide (K2.out.trans (k1.mono K2.out.size))
  clear k1
  rcases hin with rfl | rfl | rfl
  all_goals go_wp2
  all_goals go_ret
  all_goals exact ⟨rfl, K3.out⟩

set_option maxRecDepth 100000 in
set_option maxHeartbeats 4000000 in
theorem bySize_is : CmpIs (fun _ => True) (.func (.func 17) #[] #[]) (fun a b => 7 * ocmp 1 a b) := by
  refine ⟨_, _, rfl, enters_of Try.func17 (by kernel_rfl) rfl, fun W a b _ => ?_⟩
  have HC := hide (fun (u : World) (c d : It) => ocmp_any (w := u) (o := 1) (a := c) (b := d))
  have hin := ocmp_in 1 a b
  obtain ⟨z, hz⟩ : ∃ z, ocmp 1 a b = z := ⟨_, rfl⟩
  have HZ := hide hz
  rw [hz] at hin ⊢
  clear hz
  obtain ⟨a1, a2⟩ := a
  obtain ⟨b1, b2⟩ := b
  have K2 : Hid (Below W.heap.size W ((W.alloc (.cells #[.int .i64 a1, .int .i64 a2] 29)).alloc (.cells #[.int .i64 b1, .int .i64 b2] 29))) := hide (((Below.refl _ W).alloc (Nat.le_refl _) _).alloc (by simp) _)
  show Calls Try.prog 17 #[itV (a1, a2), itV (b1, b2)] W _
  go_enter Try.func17, Try.ntmps17
  go_wp2_with fail
  refine (HC.out _ (a1, a2) (b1, b2)).mono ?_
  rintro e w1 ⟨rfl, k1⟩
  rw [HZ.out]
  have K3 := hide (K2.out.trans (k1.mono K2.out.size))
  clear k1
  rcases hin with rfl | rfl | rfl
  all_goals go_wp2
  all_goals go_ret
  all_goals exact ⟨rfl, K3.out⟩

set_option maxRecDepth 100000 in
set_option maxHeartbeats 4000000 in
theorem byAbove_is : CmpIs (fun _ => True) (.func (.func 18) #[] #[]) (fun a b => ocmp 2 a b) := by
  refine ⟨_, _, rfl, enters_of Try.func18 (by kernel_rfl) rfl, fun W a b _ => ?_⟩
  have HC := hide (fun (u : World) (c d : It) => ocmp_any (w := u) (o := 2) (a := c) (b := d))
  have hin := ocmp_in 2 a b
  obtain ⟨z, hz⟩ : ∃ z, ocmp 2 a b = z := ⟨_, rfl⟩
  have HZ := hide hz
  rw [hz] at hin ⊢
  clear hz
  obtain ⟨a1, a2⟩ := a
  obtain ⟨b1, b2⟩ := b
  have K2 : Hid (Below W.heap.size W ((W.alloc (.cells #[.int .i64 a1, .int .i64 a2] 29)).alloc (.cells #[.int .i64 b1, .int .i64 b2] 29))) := hide (((Below.refl _ W).alloc (Nat.le_refl _) _).alloc (by simp) _)
  show Calls Try.prog 18 #[itV (a1, a2), itV (b1, b2)] W _
  go_enter Try.func18, Try.ntmps18
  go_wp2_with fail
  refine (HC.out _ (a1, a2) (b1, b2)).mono ?_
  rintro e w1 ⟨rfl, k1⟩
  rw [HZ.out]
  have K3 := hide (K2.out.trans (k1.mono K2.out.size))
  clear k1
  rcases hin with rfl | rfl | rfl
  all_goals go_wp2
  all_goals go_ret
  all_goals exact ⟨rfl, K3.out⟩

set_option maxRecDepth 100000 in
set_option maxHeartbeats 4000000 in
theorem byRest_is : CmpIs (fun _ => True) (.func (.func 19) #[] #[]) (fun a b => 1099511627776 * ocmp 3 a b) := by
  refine ⟨_, _, rfl, enters_of Try.func19 (by kernel_rfl) rfl, fun W a b _ => ?_⟩
  have HC := hide (fun (u : World) (c d : It) => ocmp_any (w := u) (o := 3) (a := c) (b := d))
  have hin := ocmp_in 3 a b
  obtain ⟨z, hz⟩ : ∃ z, ocmp 3 a b = z := ⟨_, rfl⟩
  have HZ := hide hz
  rw [hz] at hin ⊢
  clear hz
  obtain ⟨a1, a2⟩ := a
  obtain ⟨b1, b2⟩ := b
  have K2 : Hid (Below W.heap.size W ((W.alloc (.cells #[.int .i64 a1, .int .i64 a2] 29)).alloc (.cells #[.int .i64 b1, .int .i64 b2] 29))) := hide (((Below.refl _ W).alloc (Nat.le_refl _) _).alloc (by simp) _)
  show Calls Try.prog 19 #[itV (a1, a2), itV (b1, b2)] W _
  go_enter Try.func19, Try.ntmps19
  go_wp2_with fail
  refine (HC.out _ (a1, a2) (b1, b2)).mono ?_
  rintro e w1 ⟨rfl, k1⟩
  rw [HZ.out]
  have K3 := hide (K2.out.trans (k1.mono K2.out.size))
  clear k1
  rcases hin with rfl | rfl | rfl
  all_goals go_wp2
  all_goals go_ret
  all_goals exact ⟨rfl, K3.out⟩

set_option maxRecDepth 100000 in
set_option maxHeartbeats 4000000 in
theorem alike_is : CmpIs (fun _ => True) (.func (.func 20) #[] #[]) (fun _ _ => 0) := by
  refine ⟨_, _, rfl, enters_of Try.func20 (by kernel_rfl) rfl, fun W a b _ => ?_⟩
  obtain ⟨a1, a2⟩ := a
  obtain ⟨b1, b2⟩ := b
  show Calls Try.prog 20 #[itV (a1, a2), itV (b1, b2)] W _
  go_enter Try.func20, Try.ntmps20
  go_wp2
  go_ret
  first | exact ⟨rfl, Below.refl _ _⟩ | exact ⟨rfl, ((Below.refl _ W).alloc (Nat.le_refl _) _).alloc (by simp) _⟩

/-- the order of a number -/
def byV (o : Int) : Value := .func (.func (if o = 0 then 16 else if o = 1 then 17 else if o = 2 then 18 else if o = 3 then 19 else 20)) #[] #[]
def byF (o : Int) (a b : It) : Int := if o = 0 then ocmp 0 a b else if o = 1 then 7 * ocmp 1 a b else if o = 2 then ocmp 2 a b else if o = 3 then 1099511627776 * ocmp 3 a b else 0
theorem by_is (o : Int) : CmpIs (fun _ => True) (byV o) (byF o) := by
  unfold byV
  by_cases h0 : o = 0
  · subst h0; exact byKey_is
  · by_cases h1 : o = 1
    · subst h1; exact bySize_is
    · by_cases h2 : o = 2
      · subst h2; exact byAbove_is
      · by_cases h3 : o = 3
        · subst h3; exact byRest_is
        · simp only [h0, h1, h2, h3, if_false]
          have e : byF o = fun _ _ => 0 := by funext a b; simp [byF, h0, h1, h2, h3]
          rw [e]
          exact alike_is
theorem byF_neg (o : Int) (a b : It) : byF o a b < 0 ↔ ocmp o a b < 0 := by
  unfold byF
  split
  · next h => subst h; rfl
  · split
    · next h => subst h; omega
    · split
      · next h => subst h; rfl
      · split
        · next h => subst h; omega
        · next h0 h1 h2 h3 => simp [ocmp, oKey, h0, h1, h2, h3, oSgn]
theorem byF_zero (o : Int) (a b : It) : byF o a b = 0 ↔ ocmp o a b = 0 := by
  unfold byF
  split
  · next h => subst h; rfl
  · split
    · next h => subst h; omega
    · split
      · next h => subst h; rfl
      · split
        · next h => subst h; omega
        · next h0 h1 h2 h3 => simp [ocmp, oKey, h0, h1, h2, h3, oSgn]

set_option maxRecDepth 100000 in
set_option maxHeartbeats 4000000 in
theorem by_any {w : World} {o : Int} : Calls Try.prog 6 #[.int .i64 o] w fun e w' => e = .returned (byV o) ∧ w' = w := by
  by_cases h0 : o = 0
  · subst h0
    go_enter Try.func6, Try.ntmps6
    go_wp2
    go_ret
    exact ⟨rfl, rfl⟩
  · by_cases h1 : o = 1
    · subst h1
      go_enter Try.func6, Try.ntmps6
      go_wp2
      go_ret
      exact ⟨rfl, rfl⟩
    · by_cases h2 : o = 2
      · subst h2
        go_enter Try.func6, Try.ntmps6
        go_wp2
        go_ret
        exact ⟨rfl, rfl⟩
      · by_cases h3 : o = 3
        · subst h3
          go_enter Try.func6, Try.ntmps6
          go_wp2
          go_ret
          exact ⟨rfl, rfl⟩
        · have g0 : (o == 0) = false := by simpa using h0
          have g1 : (o == 1) = false := by simpa using h1
          have g2 : (o == 2) = false := by simpa using h2
          have g3 : (o == 3) = false := by simpa using h3
          have HV : Hid (byV o = .func (.func 20) #[] #[]) := hide (by simp [byV, h0, h1, h2, h3])
          clear h0 h1 h2 h3
          go_enter Try.func6, Try.ntmps6
          go_wp2
          go_ret
          exact ⟨by rw [HV.out]; rfl, rfl⟩

end Go.Proofs.Ytboikfcmbfaaeaa

namespace Go.Proofs.Ytboikfcmbfaaeaa
open Go.RowKit Go.Shelf
set_option linter.unusedVariables false
set_option linter.unusedSimpArgs false

/-- the first place that is not below, by halves -/
def bsr (f : It → It → Int) (l : List It) (x : It) (lo hi : Nat) : Nat :=
  if h : lo < hi then if f (l[lo + (hi - lo) / 2]?.getD (0, 0)) x < 0 then bsr f l x (lo + (hi - lo) / 2 + 1) hi else bsr f l x lo (lo + (hi - lo) / 2) else lo
termination_by hi - lo
theorem bsr_lt {f : It → It → Int} {l : List It} {x : It} {lo hi m : Nat} (h : lo < hi) (hm : lo + (hi - lo) / 2 = m) (h2 : f (l[m]?.getD (0, 0)) x < 0) : bsr f l x lo hi = bsr f l x (m + 1) hi := by
  rw [bsr, dif_pos h, hm, if_pos h2]
theorem bsr_ge {f : It → It → Int} {l : List It} {x : It} {lo hi m : Nat} (h : lo < hi) (hm : lo + (hi - lo) / 2 = m) (h2 : ¬ f (l[m]?.getD (0, 0)) x < 0) : bsr f l x lo hi = bsr f l x lo m := by
  rw [bsr, dif_pos h, hm, if_neg h2]
theorem bsr_end {f : It → It → Int} {l : List It} {x : It} {lo hi : Nat} (h : ¬ lo < hi) : bsr f l x lo hi = lo := by rw [bsr, dif_neg h]
theorem bsr_le {f : It → It → Int} {l : List It} {x : It} {lo hi : Nat} (h : lo ≤ hi) : lo ≤ bsr f l x lo hi ∧ bsr f l x lo hi ≤ hi := by
  fun_induction bsr f l x lo hi with
  | case1 lo hi h1 h2 ih => have := ih (by omega); omega
  | case2 lo hi h1 h2 ih => have := ih (by omega); omega
  | case3 lo hi h1 => omega
def bsOk (f : It → It → Int) (l : List It) (x : It) (k : Nat) : Bool := decide (k < l.length ∧ f (l[k]?.getD (0, 0)) x = 0)

set_option maxRecDepth 100000 in
set_option maxHeartbeats 8000000 in
theorem search_any {w : World} {va cv : Value} {l : List It} {x : It} {f : It → It → Int} {I : World → Prop} (ha : ItRd (fun _ => True) w va l) (hl : l.length ≤ 8796093022208) (hc : CmpIs I cv f) (hI : ∀ W, Below w.heap.size w W → I W) :
    Calls Try.prog 29 #[va, itV x, cv] w fun e w' => e = .returned (.tuple #[.int .i64 (bsr f l x 0 l.length : Nat), .bool (bsOk f l x (bsr f l x 0 l.length))]) ∧ Below w.heap.size w w' := by
  obtain ⟨cg, cl, rfl, eg, hcall⟩ := hc.val
  obtain ⟨ao, ca, rfl, hac, ham, hacl⟩ := ha
  unfold maxLen at ham
  obtain ⟨x1, x2⟩ := x
  have hfn : ∀ (w : World) f a c, (binOp .eql 30 (.func f a c) .nilFunc).run Try.prog w = .ok (.bool false) w := ofunc_nil itdesc
  obtain ⟨W1, hW1⟩ : ∃ u, w.alloc (.cells #[.int .i64 x1, .int .i64 x2] 29) = u := ⟨_, rfl⟩
  have K1 : Hid (Below w.heap.size w W1) := by rw [← hW1]; exact hide ((Below.refl _ w).alloc (Nat.le_refl _) _)
  have hx0 : W1.heap[w.heap.size]? = some (.cells #[.int .i64 x1, .int .i64 x2] 29 (0, 0)) := by rw [← hW1]; exact heap_alloc_new w _
  have HX : Hid (∀ U, Below W1.heap.size W1 U → U.cell? ⟨w.heap.size, 0, none⟩ = some (.int .i64 x1) ∧ U.cell? ⟨w.heap.size, 1, none⟩ = some (.int .i64 x2)) := hide (fun U k => by
    have h := (k.block _ (Array.getElem?_eq_some_iff.1 hx0).1).trans hx0
    exact ⟨cell_of_row U _ 0 _ _ _ h, cell_of_row U _ 1 _ _ _ h⟩)
  have RA := hide hacl
  have HC := hide (fun (U : World) (k : Below W1.heap.size W1 U) (a b : It) => hcall U a b (hI U (K1.out.trans (k.mono K1.out.size))))
  clear hacl hcall hx0 hI
  obtain ⟨kk, hkk⟩ : ∃ k, bsr f l (x1, x2) 0 l.length = k := ⟨_, rfl⟩
  rw [hkk]
  have HKK := hide hkk
  clear hkk
  go_enter Try.func29, Try.ntmps29
  go_wp2
  go_loopw [8, 9] (fun p q wr => ∃ (lo hi : Nat), p = .int .i64 lo ∧ q = .int .i64 hi ∧ lo ≤ hi ∧ hi ≤ l.length ∧ Hid (bsr f l (x1, x2) lo hi = kk) ∧ Hid (Below W1.heap.size W1 wr)) (fun p q _ => (intOf q).toNat - (intOf p).toNat)
  case atStart => exact ⟨0, l.length, rfl, rfl, by omega, by omega, HKK, hide (Below.refl _ _)⟩
  case round =>
    obtain ⟨lo, hi, rfl, rfl, h1, h2, hk, hB⟩ := hrel
    have HCw := hide (fun (U : World) (k : Below wr.heap.size wr U) => HC.out U (hB.out.trans (k.mono hB.out.size)))
    by_cases hlt : lo < hi
    · obtain ⟨ga, oa, rfl, _, hga, hin⟩ := RA.out (by omega)
      obtain ⟨m, hm⟩ : ∃ m, lo + (hi - lo) / 2 = m := ⟨_, rfl⟩
      have hml : m < l.length := by omega
      have q1 : (lo : Int) < (hi : Int) := by omega
      have e1 : IntKind.i64.wrap ((hi : Int) - (lo : Int)) = ((hi - lo : Nat) : Int) := by rw [IntKind.wrap_i64]; omega
      have e3 : (lo : Int) + ((hi - lo : Nat) : Int) / 2 = (m : Int) := by omega
      have q2 : (m : Int) < (l.length : Int) := by omega
      obtain ⟨⟨y1, y2⟩, hy⟩ : ∃ y, l[m] = y := ⟨_, rfl⟩
      have hmy : l[m]?.getD (0, 0) = (y1, y2) := by simp [hml, hy]
      have qy := hin m hml
      rw [hy] at qy
      have CF : Hid (∀ U, Below wr.heap.size wr U → U.cell? ⟨w.heap.size, 0, none⟩ = some (.int .i64 x1) ∧ U.cell? ⟨w.heap.size, 1, none⟩ = some (.int .i64 x2) ∧ U.cell? ⟨ga, oa + m * 2, none⟩ = some (.int .i64 y1) ∧ U.cell? ⟨ga, oa + m * 2 + 1, none⟩ = some (.int .i64 y2)) := hide (fun U k => by
        have k1 := hB.out.trans (k.mono hB.out.size)
        have k2 : Below w.heap.size w U := K1.out.trans (k1.mono K1.out.size)
        exact ⟨(HX.out U k1).1, (HX.out U k1).2, (k2.cell (p := ⟨ga, _, none⟩) hga).trans qy.1, (k2.cell (p := ⟨ga, _, none⟩) hga).trans qy.2⟩)
      have K : Below wr.heap.size wr wr.drew := (Below.refl _ _).drew
      obtain ⟨fv, hfv⟩ : ∃ z, f (y1, y2) (x1, x2) = z := ⟨_, rfl⟩
      have HFV := hide hfv
      have HMY := hide hmy
      have HM := hide hm
      clear hfv hmy hin qy hy hm
      by_cases hf : fv < 0
      · have d1 : decide (fv < 0) = true := by simpa using hf
        have HN := hide (show bsr f l (x1, x2) (m + 1) hi = kk by rw [← bsr_lt hlt HM.out (by rw [HMY.out, HFV.out]; exact hf)]; exact hk.out)
        have hmh : m < hi := by have := HM.out; omega
        go_wp2
        first | go_region_held3 (fun u => u.cell? ⟨w.heap.size, 0, none⟩ = some (.int .i64 x1) ∧ u.cell? ⟨w.heap.size, 1, none⟩ = some (.int .i64 x2) ∧ u.cell? ⟨ga, oa + m * 2, none⟩ = some (.int .i64 y1) ∧ u.cell? ⟨ga, oa + m * 2 + 1, none⟩ = some (.int .i64 y2))
          (first | with_reducible exact CF.out _ K | go_keep)
          (first | (go_at_fn cg; (with_reducible refine (HCw.out _ K (y1, y2) (x1, x2)).mono ?_); rintro e w8 ⟨rfl, hb⟩; rw [HFV.out]; replace K := K.trans (hb.mono K.size); clear hb)) | fail "region"
        have HB8 := hide (hB.out.trans (K.mono hB.out.size))
        clear K
        go_wp2
        go_roundw
        case rel => exact ⟨m + 1, hi, by simp, rfl, by omega, by omega, HN, HB8⟩
        case measure => simp [intOf]; have := HM.out; omega
      · have d1 : decide (fv < 0) = false := by simpa using hf
        have HN := hide (show bsr f l (x1, x2) lo m = kk by rw [← bsr_ge hlt HM.out (by rw [HMY.out, HFV.out]; exact hf)]; exact hk.out)
        have hmh : m < hi := by have := HM.out; omega
        have hlm : lo ≤ m := by have := HM.out; omega
        go_wp2
        first | go_region_held3 (fun u => u.cell? ⟨w.heap.size, 0, none⟩ = some (.int .i64 x1) ∧ u.cell? ⟨w.heap.size, 1, none⟩ = some (.int .i64 x2) ∧ u.cell? ⟨ga, oa + m * 2, none⟩ = some (.int .i64 y1) ∧ u.cell? ⟨ga, oa + m * 2 + 1, none⟩ = some (.int .i64 y2))
          (first | with_reducible exact CF.out _ K | go_keep)
          (first | (go_at_fn cg; (with_reducible refine (HCw.out _ K (y1, y2) (x1, x2)).mono ?_); rintro e w8 ⟨rfl, hb⟩; rw [HFV.out]; replace K := K.trans (hb.mono K.size); clear hb)) | fail "region"
        have HB8 := hide (hB.out.trans (K.mono hB.out.size))
        clear K
        go_wp2
        go_roundw
        case rel => exact ⟨lo, m, rfl, rfl, by omega, by omega, HN, HB8⟩
        case measure => simp [intOf]; have := HM.out; omega
    · have q1 : ¬ (lo : Int) < (hi : Int) := by omega
      have hkl : lo = kk := by rw [← hk.out, bsr_end hlt]
      subst hkl
      by_cases hlo : lo < l.length
      · obtain ⟨ga, oa, rfl, _, hga, hin⟩ := RA.out (by omega)
        have q2 : (lo : Int) < (l.length : Int) := by omega
        have d2 : decide ((lo : Int) < (l.length : Int)) = true := by simpa using q2
        obtain ⟨⟨y1, y2⟩, hy⟩ : ∃ y, l[lo] = y := ⟨_, rfl⟩
        have hmy : l[lo]?.getD (0, 0) = (y1, y2) := by simp [hlo, hy]
        have qy := hin lo hlo
        rw [hy] at qy
        have CF : Hid (∀ U, Below wr.heap.size wr U → U.cell? ⟨w.heap.size, 0, none⟩ = some (.int .i64 x1) ∧ U.cell? ⟨w.heap.size, 1, none⟩ = some (.int .i64 x2) ∧ U.cell? ⟨ga, oa + lo * 2, none⟩ = some (.int .i64 y1) ∧ U.cell? ⟨ga, oa + lo * 2 + 1, none⟩ = some (.int .i64 y2)) := hide (fun U k => by
          have k1 := hB.out.trans (k.mono hB.out.size)
          have k2 : Below w.heap.size w U := K1.out.trans (k1.mono K1.out.size)
          exact ⟨(HX.out U k1).1, (HX.out U k1).2, (k2.cell (p := ⟨ga, _, none⟩) hga).trans qy.1, (k2.cell (p := ⟨ga, _, none⟩) hga).trans qy.2⟩)
        have K : Below wr.heap.size wr wr.drew := (Below.refl _ _).drew
        obtain ⟨fv, hfv⟩ : ∃ z, f (y1, y2) (x1, x2) = z := ⟨_, rfl⟩
        have HOK : Hid (bsOk f l (x1, x2) lo = (fv == 0)) := hide (by rw [bsOk, hmy, hfv]; simp [hlo]; rfl)
        have HFV := hide hfv
        clear hfv hmy hin qy hy
        obtain ⟨ok, hok⟩ : ∃ b, (fv == 0) = b := ⟨_, rfl⟩
        rw [hok] at HOK
        go_wp2
        first | go_region_held3 (fun u => u.cell? ⟨w.heap.size, 0, none⟩ = some (.int .i64 x1) ∧ u.cell? ⟨w.heap.size, 1, none⟩ = some (.int .i64 x2) ∧ u.cell? ⟨ga, oa + lo * 2, none⟩ = some (.int .i64 y1) ∧ u.cell? ⟨ga, oa + lo * 2 + 1, none⟩ = some (.int .i64 y2))
          (first | with_reducible exact CF.out _ K | go_keep)
          (first | (go_at_fn cg; (with_reducible refine (HCw.out _ K (y1, y2) (x1, x2)).mono ?_); rintro e w8 ⟨rfl, hb⟩; rw [HFV.out]; replace K := K.trans (hb.mono K.size); clear hb)) | fail "region"
        have HB8 := hide (K1.out.trans ((hB.out.trans (K.mono hB.out.size)).mono K1.out.size))
        clear K
        go_wp2
        exact bodyPost_ret (v := .tuple #[.int .i64 lo, .bool ok]) (by simp [results, Try.results29, go_sem]) rfl ⟨by rw [HOK.out], HB8.out⟩
      · have q2 : ¬ (lo : Int) < (l.length : Int) := by omega
        have d2 : decide ((lo : Int) < (l.length : Int)) = false := by simpa using q2
        have HOK : Hid (bsOk f l (x1, x2) lo = false) := hide (by simp [bsOk, hlo])
        go_wp2
        go_quiet (fail)
        go_wp2
        exact bodyPost_ret (v := .tuple #[.int .i64 lo, .bool false]) (by simp [results, Try.results29, go_sem]) rfl ⟨by rw [HOK.out], K1.out.trans ((hB.out.trans ((obel_drewN wr _).mono hB.out.size)).mono K1.out.size)⟩

end Go.Proofs.Ytboikfcmbfaaeaa

namespace Go.Proofs.Ytboikfcmbfaaeaa
open Go.RowKit Go.Shelf
set_option linter.unusedVariables false
set_option linter.unusedSimpArgs false

/-- an element and how many came ahead of it -/
abbrev Hi := It × Int
abbrev hiV (x : Hi) : Value := .agg #[.int .i64 x.1.1, .int .i64 x.1.2, .int .i64 x.2]
def ahF (f : It → It → Int) (x y : Hi) : Bool := decide (f x.1 y.1 < 0) || (f x.1 y.1 == 0 && decide (x.2 < y.2))
def flat3 (hs : List Hi) : List Value := hs.flatMap fun x => [.int .i64 x.1.1, .int .i64 x.1.2, .int .i64 x.2]
theorem flat3_cons (x : Hi) (hs : List Hi) : flat3 (x :: hs) = .int .i64 x.1.1 :: .int .i64 x.1.2 :: .int .i64 x.2 :: flat3 hs := rfl
theorem flat3_len (hs : List Hi) : (flat3 hs).length = hs.length * 3 := by
  induction hs with
  | nil => rfl
  | cons x hs ih => rw [flat3_cons, List.length_cons, List.length_cons, List.length_cons, ih, List.length_cons]; omega
theorem flat3_append (a b : List Hi) : flat3 (a ++ b) = flat3 a ++ flat3 b := by simp [flat3]
theorem flat3_get (hs : List Hi) (i : Nat) (h : i < hs.length) : (flat3 hs)[i * 3]? = some (.int .i64 hs[i].1.1) ∧ (flat3 hs)[i * 3 + 1]? = some (.int .i64 hs[i].1.2) ∧ (flat3 hs)[i * 3 + 2]? = some (.int .i64 hs[i].2) := by
  induction hs generalizing i with
  | nil => simp at h
  | cons x hs ih =>
    rw [flat3_cons]
    cases i with
    | zero => simp
    | succ i =>
      have := ih i (by simpa using h)
      rw [show (i + 1) * 3 = i * 3 + 1 + 1 + 1 by omega]
      simpa using this
theorem flat3_set (hs : List Hi) (i : Nat) (h : i < hs.length) (x : Hi) : (((flat3 hs).set (i * 3) (.int .i64 x.1.1)).set (i * 3 + 1) (.int .i64 x.1.2)).set (i * 3 + 2) (.int .i64 x.2) = flat3 (hs.set i x) := by
  induction hs generalizing i with
  | nil => simp at h
  | cons y hs ih =>
    cases i with
    | zero => simp [flat3_cons]
    | succ i =>
      rw [flat3_cons, List.set_cons_succ, flat3_cons, ← ih i (by simpa using h), show (i + 1) * 3 = i * 3 + 1 + 1 + 1 by omega]
      simp
theorem flat3_take (hs : List Hi) (k : Nat) : flat3 (hs.take k) = (flat3 hs).take (k * 3) := by
  induction hs generalizing k with
  | nil => simp [flat3]
  | cons x hs ih =>
    cases k with
    | zero => simp [flat3]
    | succ k => rw [List.take_succ_cons, flat3_cons, ih, flat3_cons, show (k + 1) * 3 = k * 3 + 1 + 1 + 1 by omega]; simp
/-- the items of a bag lie in a row of their own -/
def HpRow (base : Nat) (w : World) (hv : Value) (hs : List Hi) : Prop := w.ownsRow base 48 3 hv hs.length (flat3 hs)
theorem HpRow.form {base : Nat} {w : World} {hv : Value} {hs : List Hi} (h : HpRow base w hv hs) : ∃ ao cap, hv = .slice ao hs.length cap ∧ hs.length ≤ cap ∧ cap ≤ maxLen ∧ (0 < hs.length → ∃ g, ao = some ⟨g, 0, none⟩ ∧ base ≤ g ∧ g < w.heap.size) := by
  rcases h.2 with ⟨e, h0⟩ | ⟨g, cap, cur, e, hb, hg, h1, h2, _⟩
  · exact ⟨none, 0, by rw [e, h0], by omega, by unfold maxLen; omega, fun h => by omega⟩
  · exact ⟨_, cap, e, h1, h2, fun _ => ⟨g, rfl, hb, (Array.getElem?_eq_some_iff.1 hg).1⟩⟩
theorem HpRow.cell {base : Nat} {w : World} {g cap n : Nat} {hs : List Hi} (hn : hs.length = n) (h : HpRow base w (.slice (some ⟨g, 0, none⟩) n cap) hs) {i : Nat} (hi : i < n) : w.cell? ⟨g, i * 3, none⟩ = some (.int .i64 hs[i].1.1) ∧ w.cell? ⟨g, i * 3 + 1, none⟩ = some (.int .i64 hs[i].1.2) ∧ w.cell? ⟨g, i * 3 + 2, none⟩ = some (.int .i64 hs[i].2) := by
  subst hn
  obtain ⟨q0, q1, q2⟩ := flat3_get hs i hi
  exact ⟨(World.ownsRow.cellAt h _ (by omega)).trans q0, (World.ownsRow.cellAt h _ (by omega)).trans q1, (World.ownsRow.cellAt h _ (by omega)).trans q2⟩
theorem HpRow.set {base : Nat} {w : World} {g cap n : Nat} {hs : List Hi} (hn : hs.length = n) (h : HpRow base w (.slice (some ⟨g, 0, none⟩) n cap) hs) {i : Nat} (hi : i < n) (x : Hi) :
    HpRow base (((w.setCell ⟨g, i * 3, none⟩ (.int .i64 x.1.1)).setCell ⟨g, i * 3 + 1, none⟩ (.int .i64 x.1.2)).setCell ⟨g, i * 3 + 2, none⟩ (.int .i64 x.2)) (.slice (some ⟨g, 0, none⟩) n cap) (hs.set i x) := by
  subst hn
  unfold HpRow
  rw [← flat3_set hs i hi x, List.length_set]
  exact (World.ownsRow.stored (World.ownsRow.stored (World.ownsRow.stored h _ _).1 _ _).1 _ _).1
/-- the bag itself -/
def BagAt (w : World) (B : Nat) (cv : Value) (came : Int) (hv : Value) : Prop := w.heap[B]? = some (.cells #[cv, .int .i64 came, hv] 46 (0, 0))
theorem BagAt.lt {w : World} {B : Nat} {cv : Value} {came : Int} {hv : Value} (h : BagAt w B cv came hv) : B < w.heap.size := (Array.getElem?_eq_some_iff.1 h).1
theorem BagAt.cells {w : World} {B : Nat} {cv : Value} {came : Int} {hv : Value} (h : BagAt w B cv came hv) : w.cell? ⟨B, 0, none⟩ = some cv ∧ w.cell? ⟨B, 1, none⟩ = some (.int .i64 came) ∧ w.cell? ⟨B, 2, none⟩ = some hv :=
  ⟨cell_of_row w B 0 _ _ _ h, cell_of_row w B 1 _ _ _ h, cell_of_row w B 2 _ _ _ h⟩
theorem BagAt.frozen {w : World} {B : Nat} {cv : Value} {came : Int} {hv : Value} (h : BagAt w B cv came hv) (i : Nat) : w.frozen? ⟨B, i, none⟩ = false := frozen_of_row w B i _ _ h
theorem BagAt.keep {w w' : World} {B : Nat} {cv : Value} {came : Int} {hv : Value} (h : BagAt w B cv came hv) (e : w'.heap[B]? = w.heap[B]?) : BagAt w' B cv came hv := e.trans h

set_option maxRecDepth 100000 in
set_option maxHeartbeats 8000000 in
theorem ahead_any {w : World} {B : Nat} {cv : Value} {f : It → It → Int} {I : World → Prop} (hb : w.cell? ⟨B, 0, none⟩ = some cv) (hB : B < w.heap.size) (hc : CmpIs I cv f) (hI : ∀ W, Below w.heap.size w W → I W) (x y : Hi) :
    Calls Try.prog 31 #[.pointer (some ⟨B, 0, none⟩), hiV x, hiV y] w fun e w' => e = .returned (.bool (ahF f x y)) ∧ Below w.heap.size w w' := by
  obtain ⟨cg, cl, rfl, eg, hcall⟩ := hc.val
  obtain ⟨⟨x1, x2⟩, x3⟩ := x
  obtain ⟨⟨y1, y2⟩, y3⟩ := y
  obtain ⟨W2, hW2⟩ : ∃ u, (w.alloc (.cells #[.int .i64 x1, .int .i64 x2, .int .i64 x3] 48)).alloc (.cells #[.int .i64 y1, .int .i64 y2, .int .i64 y3] 48) = u := ⟨_, rfl⟩
  have K2 : Hid (Below w.heap.size w W2) := by rw [← hW2]; exact hide (((Below.refl _ w).alloc (Nat.le_refl _) _).alloc (by simp) _)
  have r1 : W2.heap[w.heap.size]? = some (.cells #[.int .i64 x1, .int .i64 x2, .int .i64 x3] 48 (0, 0)) := by rw [← hW2]; exact (Below.heap_alloc _ _ _ (by simp)).trans (heap_alloc_new w _)
  have r2 : W2.heap[w.heap.size + 1]? = some (.cells #[.int .i64 y1, .int .i64 y2, .int .i64 y3] 48 (0, 0)) := by
    rw [← hW2]
    have := heap_alloc_new (w.alloc (.cells #[.int .i64 x1, .int .i64 x2, .int .i64 x3] 48)) (.cells #[.int .i64 y1, .int .i64 y2, .int .i64 y3] 48)
    rw [World.size_alloc] at this
    exact this
  have CF : Hid (∀ U, Below W2.heap.size W2 U → U.cell? ⟨B, 0, none⟩ = some (.func (.func cg) #[] cl) ∧ U.cell? ⟨w.heap.size, 0, none⟩ = some (.int .i64 x1) ∧ U.cell? ⟨w.heap.size, 1, none⟩ = some (.int .i64 x2) ∧ U.cell? ⟨w.heap.size, 2, none⟩ = some (.int .i64 x3) ∧ U.cell? ⟨w.heap.size + 1, 0, none⟩ = some (.int .i64 y1) ∧ U.cell? ⟨w.heap.size + 1, 1, none⟩ = some (.int .i64 y2) ∧ U.cell? ⟨w.heap.size + 1, 2, none⟩ = some (.int .i64 y3)) := hide (fun U k => by
    have k2 : Below w.heap.size w U := K2.out.trans (k.mono K2.out.size)
    have q1 := (k.block _ (Array.getElem?_eq_some_iff.1 r1).1).trans r1
    have q2 := (k.block _ (Array.getElem?_eq_some_iff.1 r2).1).trans r2
    exact ⟨(k2.cell (p := ⟨B, 0, none⟩) hB).trans hb, cell_of_row U _ 0 _ _ _ q1, cell_of_row U _ 1 _ _ _ q1, cell_of_row U _ 2 _ _ _ q1, cell_of_row U _ 0 _ _ _ q2, cell_of_row U _ 1 _ _ _ q2, cell_of_row U _ 2 _ _ _ q2⟩)
  have HC := hide (fun (U : World) (k : Below W2.heap.size W2 U) => hcall U (x1, x2) (y1, y2) (hI U (K2.out.trans (k.mono K2.out.size))))
  have K : Below W2.heap.size W2 W2.drew := (Below.refl _ _).drew
  obtain ⟨fv, hfv⟩ : ∃ z, f (x1, x2) (y1, y2) = z := ⟨_, rfl⟩
  have HA : Hid (ahF f ((x1, x2), x3) ((y1, y2), y3) = (decide (fv < 0) || (fv == 0 && decide (x3 < y3)))) := hide (by rw [ahF, hfv])
  have HFV := hide hfv
  clear hfv hcall hI hb r1 r2
  by_cases h0 : fv < 0
  · have HR : Hid ((decide (fv < 0) || (fv == 0 && decide (x3 < y3))) = true) := hide (by simp [h0])
    have d0 : decide (fv < 0) = true := by simpa using h0
    go_enter Try.func31, Try.ntmps31
    go_wp2
    first | go_region_held3 (fun u => u.cell? ⟨B, 0, none⟩ = some (.func (.func cg) #[] cl) ∧ u.cell? ⟨w.heap.size, 0, none⟩ = some (.int .i64 x1) ∧ u.cell? ⟨w.heap.size, 1, none⟩ = some (.int .i64 x2) ∧ u.cell? ⟨w.heap.size, 2, none⟩ = some (.int .i64 x3) ∧ u.cell? ⟨w.heap.size + 1, 0, none⟩ = some (.int .i64 y1) ∧ u.cell? ⟨w.heap.size + 1, 1, none⟩ = some (.int .i64 y2) ∧ u.cell? ⟨w.heap.size + 1, 2, none⟩ = some (.int .i64 y3))
      (first | with_reducible exact CF.out _ K | go_keep)
      (first | (go_at_fn cg; (with_reducible refine (HC.out _ K).mono ?_); rintro e w8 ⟨rfl, hb⟩; rw [HFV.out]; replace K := K.trans (hb.mono K.size); clear hb)) | fail "region"
    obtain ⟨f0, f1, f2, f3, f4, f5, f6⟩ := CF.out _ K
    go_wp2
    go_ret
    exact ⟨by rw [HA.out, HR.out]; rfl, K2.out.trans (K.mono K2.out.size)⟩
  · have d0 : decide (fv < 0) = false := by simpa using h0
    by_cases h1 : fv = 0
    · have d1 : (fv == 0) = true := by simpa using h1
      obtain ⟨lt, hlt⟩ : ∃ b, decide (x3 < y3) = b := ⟨_, rfl⟩
      have HR : Hid ((decide (fv < 0) || (fv == 0 && decide (x3 < y3))) = lt) := hide (by rw [d0, d1, hlt]; simp)
      subst h1
      go_enter Try.func31, Try.ntmps31
      go_wp2
      first | go_region_held3 (fun u => u.cell? ⟨B, 0, none⟩ = some (.func (.func cg) #[] cl) ∧ u.cell? ⟨w.heap.size, 0, none⟩ = some (.int .i64 x1) ∧ u.cell? ⟨w.heap.size, 1, none⟩ = some (.int .i64 x2) ∧ u.cell? ⟨w.heap.size, 2, none⟩ = some (.int .i64 x3) ∧ u.cell? ⟨w.heap.size + 1, 0, none⟩ = some (.int .i64 y1) ∧ u.cell? ⟨w.heap.size + 1, 1, none⟩ = some (.int .i64 y2) ∧ u.cell? ⟨w.heap.size + 1, 2, none⟩ = some (.int .i64 y3))
        (first | with_reducible exact CF.out _ K | go_keep)
        (first | (go_at_fn cg; (with_reducible refine (HC.out _ K).mono ?_); rintro e w8 ⟨rfl, hb⟩; rw [HFV.out]; replace K := K.trans (hb.mono K.size); clear hb)) | fail "region"
      obtain ⟨f0, f1, f2, f3, f4, f5, f6⟩ := CF.out _ K
      go_wp2
      go_ret
      exact ⟨by rw [HA.out, HR.out]; rfl, K2.out.trans (K.mono K2.out.size)⟩
    · have d1 : (fv == 0) = false := by simpa using h1
      have HR : Hid ((decide (fv < 0) || (fv == 0 && decide (x3 < y3))) = false) := hide (by rw [d0, d1]; simp)
      go_enter Try.func31, Try.ntmps31
      go_wp2
      first | go_region_held3 (fun u => u.cell? ⟨B, 0, none⟩ = some (.func (.func cg) #[] cl) ∧ u.cell? ⟨w.heap.size, 0, none⟩ = some (.int .i64 x1) ∧ u.cell? ⟨w.heap.size, 1, none⟩ = some (.int .i64 x2) ∧ u.cell? ⟨w.heap.size, 2, none⟩ = some (.int .i64 x3) ∧ u.cell? ⟨w.heap.size + 1, 0, none⟩ = some (.int .i64 y1) ∧ u.cell? ⟨w.heap.size + 1, 1, none⟩ = some (.int .i64 y2) ∧ u.cell? ⟨w.heap.size + 1, 2, none⟩ = some (.int .i64 y3))
        (first | with_reducible exact CF.out _ K | go_keep)
        (first | (go_at_fn cg; (with_reducible refine (HC.out _ K).mono ?_); rintro e w8 ⟨rfl, hb⟩; rw [HFV.out]; replace K := K.trans (hb.mono K.size); clear hb)) | fail "region"
      obtain ⟨f0, f1, f2, f3, f4, f5, f6⟩ := CF.out _ K
      go_wp2
      go_ret
      exact ⟨by rw [HA.out, HR.out]; rfl, K2.out.trans (K.mono K2.out.size)⟩

end Go.Proofs.Ytboikfcmbfaaeaa

namespace Go.Proofs.Ytboikfcmbfaaeaa
open Go.RowKit Go.Shelf
set_option linter.unusedVariables false
set_option linter.unusedSimpArgs false

def hAt (hs : List Hi) (i : Nat) : Hi := hs[i]?.getD ((0, 0), 0)
theorem hAt_eq {hs : List Hi} {i : Nat} (h : i < hs.length) : hAt hs i = hs[i] := by simp [hAt, h]
def swp (hs : List Hi) (i j : Nat) : List Hi := (hs.set i (hAt hs j)).set j (hAt hs i)
theorem swp_len (hs : List Hi) (i j : Nat) : (swp hs i j).length = hs.length := by simp [swp]
theorem swp_comm (hs : List Hi) {i j : Nat} (h : i ≠ j) : (hs.set j (hAt hs i)).set i (hAt hs j) = swp hs i j := by
  unfold swp; rw [List.set_comm _ _ h]
def riseF (ah : Hi → Hi → Bool) (hs : List Hi) (a : Nat) : List Hi :=
  if h : 0 < a then if ah (hAt hs a) (hAt hs ((a - 1) / 2)) then riseF ah (swp hs a ((a - 1) / 2)) ((a - 1) / 2) else hs else hs
termination_by a
theorem riseF_len (ah : Hi → Hi → Bool) (hs : List Hi) (a : Nat) : (riseF ah hs a).length = hs.length := by
  fun_induction riseF ah hs a with
  | case1 hs a h h2 ih => rw [ih, swp_len]
  | case2 => rfl
  | case3 => rfl
theorem belx_three {X : Nat → Prop} {n g i : Nat} {u v x : Value} (h : X g) (W : World) : BelX X n W (((W.setCell ⟨g, i, none⟩ u).setCell ⟨g, i + 1, none⟩ v).setCell ⟨g, i + 2, none⟩ x) := ((belx_set _ _ h).trans (belx_set _ _ h)).trans (belx_set _ _ h)

theorem HpRow.drew {base : Nat} {w : World} {hv : Value} {hs : List Hi} (h : HpRow base w hv hs) : HpRow base w.drew hv hs := h
theorem BelX.drew {X : Nat → Prop} {n : Nat} {a b : World} (h : BelX X n a b) : BelX X n a b.drew := ⟨h.os, h.tape, h.output, h.size, h.block⟩
theorem swap_done {base g cap n a b : Nat} {w w8 : World} {hs : List Hi} {x y : Hi} (hR : HpRow base w8 (.slice (some ⟨g, 0, none⟩) n cap) hs) (hL : hs.length = n) (ha : a < n) (hb : b < n) (hx : hAt hs a = x) (hy : hAt hs b = y) (hB : BelX (fun k => k = g) w.heap.size w w8) :
    HpRow base ((((((w8.setCell ⟨g, a * 3, none⟩ (.int .i64 y.1.1)).setCell ⟨g, a * 3 + 1, none⟩ (.int .i64 y.1.2)).setCell ⟨g, a * 3 + 2, none⟩ (.int .i64 y.2)).setCell ⟨g, b * 3, none⟩ (.int .i64 x.1.1)).setCell ⟨g, b * 3 + 1, none⟩ (.int .i64 x.1.2)).setCell ⟨g, b * 3 + 2, none⟩ (.int .i64 x.2)).drew (.slice (some ⟨g, 0, none⟩) n cap) (swp hs a b) ∧
      BelX (fun k => k = g) w.heap.size w ((((((w8.setCell ⟨g, a * 3, none⟩ (.int .i64 y.1.1)).setCell ⟨g, a * 3 + 1, none⟩ (.int .i64 y.1.2)).setCell ⟨g, a * 3 + 2, none⟩ (.int .i64 y.2)).setCell ⟨g, b * 3, none⟩ (.int .i64 x.1.1)).setCell ⟨g, b * 3 + 1, none⟩ (.int .i64 x.1.2)).setCell ⟨g, b * 3 + 2, none⟩ (.int .i64 x.2)).drew := by
  have hX : (fun k => k = g) g := rfl
  refine ⟨?_, ((((((hB.trans (belx_set _ _ hX)).trans (belx_set _ _ hX)).trans (belx_set _ _ hX)).trans (belx_set _ _ hX)).trans (belx_set _ _ hX)).trans (belx_set _ _ hX)).drew⟩
  have := (hR.set hL ha y).set (by rw [List.length_set]; exact hL) hb x
  rw [swp, hx, hy]
  exact this.drew

set_option maxRecDepth 100000 in
set_option maxHeartbeats 8000000 in
theorem rise_any {w : World} {base B g cap n : Nat} {cv : Value} {hs : List Hi} {f : It → It → Int} {I : World → Prop} (hb : w.cell? ⟨B, 0, none⟩ = some cv) (hB : B < w.heap.size) (hne : B ≠ g) (hg : g < w.heap.size) (hrow : HpRow base w (.slice (some ⟨g, 0, none⟩) n cap) hs) (hn : hs.length = n) (hn1 : 1 ≤ n) (hn2 : n ≤ 1099511627776) (hc : CmpIs I cv f) (hI : ∀ W, BelX (fun k => k = g) w.heap.size w W → I W) :
    Calls Try.prog 22 #[.pointer (some ⟨B, 0, none⟩), .slice (some ⟨g, 0, none⟩) n cap] w fun e w' => e = .returned (.tuple #[]) ∧ HpRow base w' (.slice (some ⟨g, 0, none⟩) n cap) (riseF (ahF f) hs (n - 1)) ∧ BelX (fun k => k = g) w.heap.size w w' := by
  have HR := hide hrow
  have HB := hide hb
  have HC := hide hc
  have HI := hide hI
  clear hrow hb hc hI
  obtain ⟨Z, hZ⟩ : ∃ Z, riseF (ahF f) hs (n - 1) = Z := ⟨_, rfl⟩
  rw [hZ]
  have HZ := hide hZ
  have HN := hide hn
  clear hZ hn
  have e0 : IntKind.i64.wrap ((n : Int) - 1) = ((n - 1 : Nat) : Int) := by rw [IntKind.wrap_i64]; omega
  go_enter Try.func22, Try.ntmps22
  go_wp2
  clear e0
  go_loopw [4] (fun p wr => ∃ (a : Nat) (hs' : List Hi), p = .int .i64 a ∧ a < n ∧ Hid (HpRow base wr (.slice (some ⟨g, 0, none⟩) n cap) hs') ∧ Hid (hs'.length = n) ∧ Hid (riseF (ahF f) hs' a = Z) ∧ Hid (BelX (fun k => k = g) w.heap.size w wr)) (fun p _ => (intOf p).toNat)
  case atStart => exact ⟨n - 1, hs, rfl, by omega, HR, HN, HZ, hide (BelX.refl _ _ _)⟩
  case round =>
    obtain ⟨a, hs', rfl, ha, hR, hL, hZ, hBx⟩ := hrel
    by_cases h0 : 0 < a
    · have q0 : (0 : Int) < (a : Int) := by omega
      obtain ⟨b, hbd⟩ : ∃ b, (a - 1) / 2 = b := ⟨_, rfl⟩
      have hbn : b < n := by omega
      have e1 : IntKind.i64.wrap ((a : Int) - 1) = ((a - 1 : Nat) : Int) := by rw [IntKind.wrap_i64]; omega
      have e2 : ((a - 1 : Nat) : Int) / 2 = (b : Int) := by omega
      have q1 : (a : Int) < (n : Int) := by omega
      have q2 : (b : Int) < (n : Int) := by omega
      have hab : a ≠ b := by omega
      obtain ⟨⟨⟨x1, x2⟩, x3⟩, hx⟩ : ∃ x, hAt hs' a = x := ⟨_, rfl⟩
      obtain ⟨⟨⟨y1, y2⟩, y3⟩, hy⟩ : ∃ x, hAt hs' b = x := ⟨_, rfl⟩
      have cx := hR.out.cell hL.out ha
      have cy := hR.out.cell hL.out hbn
      rw [← hAt_eq (by rw [hL.out]; exact ha), hx] at cx
      rw [← hAt_eq (by rw [hL.out]; exact hbn), hy] at cy
      have hBw := hBx.out.size
      have CF : Hid (∀ U, Below wr.heap.size wr U → U.cell? ⟨g, a * 3, none⟩ = some (.int .i64 x1) ∧ U.cell? ⟨g, a * 3 + 1, none⟩ = some (.int .i64 x2) ∧ U.cell? ⟨g, a * 3 + 2, none⟩ = some (.int .i64 x3) ∧ U.cell? ⟨g, b * 3, none⟩ = some (.int .i64 y1) ∧ U.cell? ⟨g, b * 3 + 1, none⟩ = some (.int .i64 y2) ∧ U.cell? ⟨g, b * 3 + 2, none⟩ = some (.int .i64 y3)) := hide (fun U k => ⟨(k.cell (p := ⟨g, _, none⟩) (by simp; omega)).trans cx.1, (k.cell (p := ⟨g, _, none⟩) (by simp; omega)).trans cx.2.1, (k.cell (p := ⟨g, _, none⟩) (by simp; omega)).trans cx.2.2, (k.cell (p := ⟨g, _, none⟩) (by simp; omega)).trans cy.1, (k.cell (p := ⟨g, _, none⟩) (by simp; omega)).trans cy.2.1, (k.cell (p := ⟨g, _, none⟩) (by simp; omega)).trans cy.2.2⟩)
      have CA := hide (fun (U : World) (k : Below wr.heap.size wr U) => ahead_any (w := U) (B := B) (I := I) (((hBx.out.trans (BelX.of k hBw)).cell (p := ⟨B, 0, none⟩) hB hne).trans HB.out) (by have := k.size; omega) HC.out (fun W kk => HI.out W (hBx.out.trans (BelX.of (k.trans (kk.mono k.size)) hBw))) ((x1, x2), x3) ((y1, y2), y3))
      have K : Below wr.heap.size wr wr.drew := (Below.refl _ _).drew
      obtain ⟨av, hav⟩ : ∃ z, ahF f ((x1, x2), x3) ((y1, y2), y3) = z := ⟨_, rfl⟩
      rw [hav] at CA
      have HAV := hide (show ahF f (hAt hs' a) (hAt hs' b) = av by rw [hx, hy]; exact hav)
      have HBD := hide hbd
      have HX := hide hx
      have HY := hide hy
      clear hav hbd cx cy hx hy
      cases av with
      | false =>
        have HE := hide (show hs' = Z by rw [← hZ.out, riseF, dif_pos h0, HBD.out, HAV.out]; rfl)
        go_wp2
        first | go_region_held3 (fun u => u.cell? ⟨g, a * 3, none⟩ = some (.int .i64 x1) ∧ u.cell? ⟨g, a * 3 + 1, none⟩ = some (.int .i64 x2) ∧ u.cell? ⟨g, a * 3 + 2, none⟩ = some (.int .i64 x3) ∧ u.cell? ⟨g, b * 3, none⟩ = some (.int .i64 y1) ∧ u.cell? ⟨g, b * 3 + 1, none⟩ = some (.int .i64 y2) ∧ u.cell? ⟨g, b * 3 + 2, none⟩ = some (.int .i64 y3))
          (first | with_reducible exact CF.out _ K | go_keep)
          (first | (go_at_call 31; (with_reducible refine (CA.out _ K).mono ?_); rintro e w8 ⟨rfl, hb⟩; replace K := K.trans (hb.mono K.size); clear hb)) | fail "region"
        have HB8 := hide (hBx.out.trans (BelX.of K hBw))
        have HR8 := hide (show HpRow base _ (.slice (some ⟨g, 0, none⟩) n cap) hs' from hR.out.kept (ograwn K) (.inr (by simp [Value.ownBlock])))
        clear K
        go_wp2
        refine bodyPost_ret (results_none rfl _ _ _) rfl ?_
        exact ⟨rfl, by rw [← HE.out]; exact HR8.out, HB8.out⟩
      | true =>
        have HE : Hid (riseF (ahF f) (swp hs' a b) b = Z) := hide (by rw [← hZ.out]; conv => { rhs; rw [riseF, dif_pos h0, HBD.out, HAV.out, if_pos rfl] })
        go_wp2
        first | go_region_held3 (fun u => u.cell? ⟨g, a * 3, none⟩ = some (.int .i64 x1) ∧ u.cell? ⟨g, a * 3 + 1, none⟩ = some (.int .i64 x2) ∧ u.cell? ⟨g, a * 3 + 2, none⟩ = some (.int .i64 x3) ∧ u.cell? ⟨g, b * 3, none⟩ = some (.int .i64 y1) ∧ u.cell? ⟨g, b * 3 + 1, none⟩ = some (.int .i64 y2) ∧ u.cell? ⟨g, b * 3 + 2, none⟩ = some (.int .i64 y3))
          (first | with_reducible exact CF.out _ K | go_keep)
          (first | (go_at_call 31; (with_reducible refine (CA.out _ K).mono ?_); rintro e w8 ⟨rfl, hb⟩; replace K := K.trans (hb.mono K.size); clear hb)) | fail "region"
        have HB8 := hide (hBx.out.trans (BelX.of K hBw))
        have HR8 := hide (show HpRow base w8 (.slice (some ⟨g, 0, none⟩) n cap) hs' from hR.out.kept (ograwn K) (.inr (by simp [Value.ownBlock])))
        obtain ⟨f0, f1, f2, f3, f4, f5⟩ := CF.out _ K
        have fz := hide (fun i => World.ownsRow.frozenAt (show w8.ownsRow base 48 3 (.slice (some ⟨g, 0, none⟩) n cap) n (flat3 hs') by have := HR8.out; unfold HpRow at this; rw [hL.out] at this; exact this) i)
        have z0 := fz.out (a * 3)
        have z1 := fz.out (a * 3 + 1)
        have z2 := fz.out (a * 3 + 2)
        have z3 := fz.out (b * 3)
        have z4 := fz.out (b * 3 + 1)
        have z5 := fz.out (b * 3 + 2)
        have HSD := hide (swap_done HR8.out hL.out ha hbn HX.out HY.out HB8.out)
        have hba : b < a := by have := HBD.out; omega
        clear K CF CA
        go_wp2
        go_region
        go_wp2
        exact ⟨⟨b, swp hs' a b, rfl, hbn, hide HSD.out.1, hide (by rw [swp_len]; exact hL.out), HE, hide HSD.out.2⟩, by simp only [intOf, Int.toNat_natCast]; exact hba⟩
    · have q0 : ¬ (0 : Int) < (a : Int) := by omega
      have HE := hide (show hs' = Z by rw [← hZ.out, riseF, dif_neg h0])
      go_wp2
      go_end0
      exact ⟨rfl, by rw [← HE.out]; exact hR.out, hBx.out⟩

end Go.Proofs.Ytboikfcmbfaaeaa

namespace Go.Proofs.Ytboikfcmbfaaeaa
open Go.RowKit Go.Shelf
set_option linter.unusedVariables false
set_option linter.unusedSimpArgs false

/-- which of the two below is ahead -/
def low (ah : Hi → Hi → Bool) (hs : List Hi) (a : Nat) : Nat := if 2 * a + 2 < hs.length ∧ ah (hAt hs (2 * a + 2)) (hAt hs (2 * a + 1)) = true then 2 * a + 2 else 2 * a + 1
theorem low_two {ah : Hi → Hi → Bool} {hs : List Hi} {a : Nat} : low ah hs a = 2 * a + 1 ∨ low ah hs a = 2 * a + 2 := by unfold low; split <;> simp
theorem low_lt {ah : Hi → Hi → Bool} {hs : List Hi} {a : Nat} (h : 2 * a + 1 < hs.length) : low ah hs a < hs.length := by unfold low; split <;> omega
def sinkF (ah : Hi → Hi → Bool) (hs : List Hi) (a : Nat) : List Hi :=
  if h : 2 * a + 1 < hs.length then if ah (hAt hs (low ah hs a)) (hAt hs a) then sinkF ah (swp hs a (low ah hs a)) (low ah hs a) else hs else hs
termination_by hs.length - a
decreasing_by
  rw [swp_len]
  have := low_lt (ah := ah) h
  rcases low_two (ah := ah) (hs := hs) (a := a) with e | e <;> omega
theorem sinkF_len (ah : Hi → Hi → Bool) (hs : List Hi) (a : Nat) : (sinkF ah hs a).length = hs.length := by
  fun_induction sinkF ah hs a with
  | case1 hs a h h2 ih => rw [ih, swp_len]
  | case2 => rfl
  | case3 => rfl

set_option maxRecDepth 100000 in
set_option maxHeartbeats 16000000 in
theorem sink_any {w : World} {base B g cap n : Nat} {cv : Value} {hs : List Hi} {f : It → It → Int} {I : World → Prop} (hb : w.cell? ⟨B, 0, none⟩ = some cv) (hB : B < w.heap.size) (hne : B ≠ g) (hg : g < w.heap.size) (hrow : HpRow base w (.slice (some ⟨g, 0, none⟩) n cap) hs) (hn : hs.length = n) (hn2 : n ≤ 1099511627776) (hc : CmpIs I cv f) (hI : ∀ W, BelX (fun k => k = g) w.heap.size w W → I W) :
    Calls Try.prog 23 #[.pointer (some ⟨B, 0, none⟩), .slice (some ⟨g, 0, none⟩) n cap] w fun e w' => e = .returned (.tuple #[]) ∧ HpRow base w' (.slice (some ⟨g, 0, none⟩) n cap) (sinkF (ahF f) hs 0) ∧ BelX (fun k => k = g) w.heap.size w w' := by
  have HR := hide hrow
  have HB := hide hb
  have HC := hide hc
  have HI := hide hI
  clear hrow hb hc hI
  obtain ⟨Z, hZ⟩ : ∃ Z, sinkF (ahF f) hs 0 = Z := ⟨_, rfl⟩
  rw [hZ]
  have HZ := hide hZ
  have HN := hide hn
  clear hZ hn
  go_enter Try.func23, Try.ntmps23
  go_wp2
  go_loopw [4] (fun p wr => ∃ (a : Nat) (hs' : List Hi), p = .int .i64 a ∧ a ≤ n ∧ Hid (HpRow base wr (.slice (some ⟨g, 0, none⟩) n cap) hs') ∧ Hid (hs'.length = n) ∧ Hid (sinkF (ahF f) hs' a = Z) ∧ Hid (BelX (fun k => k = g) w.heap.size w wr)) (fun p _ => n - (intOf p).toNat)
  case atStart => exact ⟨0, hs, rfl, by omega, HR, HN, HZ, hide (BelX.refl _ _ _)⟩
  case round =>
    obtain ⟨a, hs', rfl, ha, hR, hL, hZ, hBx⟩ := hrel
    have hBw := hBx.out.size
    obtain ⟨c, hc⟩ : ∃ c, 2 * a + 1 = c := ⟨_, rfl⟩
    have e2 : 2 * (a : Int) + 1 = (c : Int) := by omega
    by_cases h0 : c < n
    · have q0 : (c : Int) < (n : Int) := by omega
      have han : a < n := by omega
      have q1 : (a : Int) < (n : Int) := by omega
      have CA := hide (fun (wq : World) (hq : BelX (fun k => k = g) w.heap.size w wq) (x y : Hi) (U : World) (k : Below wq.heap.size wq U) => ahead_any (w := U) (B := B) (I := I) (((hq.trans (BelX.of k hq.size)).cell (p := ⟨B, 0, none⟩) hB hne).trans HB.out) (by have := k.size; have := hq.size; omega) HC.out (fun W kk => HI.out W (hq.trans (BelX.of (k.trans (kk.mono k.size)) hq.size))) x y)
      have CL := hide (fun (wq : World) (hq : HpRow base wq (.slice (some ⟨g, 0, none⟩) n cap) hs') (hs : w.heap.size ≤ wq.heap.size) (i : Nat) (hi : i < n) (x : Hi) (hx : hAt hs' i = x) (U : World) (k : Below wq.heap.size wq U) => (show U.cell? ⟨g, i * 3, none⟩ = some (.int .i64 x.1.1) ∧ U.cell? ⟨g, i * 3 + 1, none⟩ = some (.int .i64 x.1.2) ∧ U.cell? ⟨g, i * 3 + 2, none⟩ = some (.int .i64 x.2) by
        have q := hq.cell hL.out hi
        rw [← hAt_eq (by rw [hL.out]; exact hi), hx] at q
        exact ⟨(k.cell (p := ⟨g, _, none⟩) (by simp; omega)).trans q.1, (k.cell (p := ⟨g, _, none⟩) (by simp; omega)).trans q.2.1, (k.cell (p := ⟨g, _, none⟩) (by simp; omega)).trans q.2.2⟩))
      obtain ⟨⟨⟨x1, x2⟩, x3⟩, hx⟩ : ∃ x, hAt hs' a = x := ⟨_, rfl⟩
      obtain ⟨⟨⟨y1, y2⟩, y3⟩, hy⟩ : ∃ x, hAt hs' c = x := ⟨_, rfl⟩
      have HX := hide hx
      have HY := hide hy
      have HCC := hide hc
      clear hx hy hc
      by_cases h3 : c + 1 < n
      · obtain ⟨d, hd⟩ : ∃ d, c + 1 = d := ⟨_, rfl⟩
        have e4 : IntKind.i64.wrap ((c : Int) + 1) = (d : Int) := by rw [IntKind.wrap_i64]; omega
        have e3 : Hid ((c : Int) + 1 = (d : Int)) := hide (by omega)
        have hdn : d < n := by omega
        have q3 : (d : Int) < (n : Int) := by omega
        have d3 : decide ((d : Int) < (n : Int)) = true := by simpa using q3
        obtain ⟨⟨⟨v1, v2⟩, v3⟩, hv⟩ : ∃ x, hAt hs' d = x := ⟨_, rfl⟩
        have HV := hide hv
        have HD := hide hd
        clear hv hd
        have K : Below wr.heap.size wr wr.drew := (Below.refl _ _).drew
        have CF1 := hide (fun (U : World) (k : Below wr.heap.size wr U) => And.intro (CL.out wr hR.out hBw d hdn _ HV.out U k) (CL.out wr hR.out hBw c h0 _ HY.out U k))
        obtain ⟨bv, hbv⟩ : ∃ z, ahF f ((v1, v2), v3) ((y1, y2), y3) = z := ⟨_, rfl⟩
        have CA1 := hide (CA.out wr hBx.out ((v1, v2), v3) ((y1, y2), y3))
        rw [hbv] at CA1
        have HBV := hide (show ahF f (hAt hs' (2 * a + 2)) (hAt hs' (2 * a + 1)) = bv by rw [show 2 * a + 2 = d by have := HD.out; have := HCC.out; omega, HCC.out, HV.out, HY.out]; exact hbv)
        clear hbv
        cases bv with
        | false =>
          go_wp2
          first | go_region_held3 (fun u => (u.cell? ⟨g, d * 3, none⟩ = some (.int .i64 v1) ∧ u.cell? ⟨g, d * 3 + 1, none⟩ = some (.int .i64 v2) ∧ u.cell? ⟨g, d * 3 + 2, none⟩ = some (.int .i64 v3)) ∧ (u.cell? ⟨g, c * 3, none⟩ = some (.int .i64 y1) ∧ u.cell? ⟨g, c * 3 + 1, none⟩ = some (.int .i64 y2) ∧ u.cell? ⟨g, c * 3 + 2, none⟩ = some (.int .i64 y3)))
            (first | with_reducible exact CF1.out _ K | go_keep)
            (first | (go_at_call 31; (with_reducible refine (CA1.out _ K).mono ?_); rintro e w8 ⟨rfl, hb⟩; replace K := K.trans (hb.mono K.size); clear hb)) | fail "region"
          have HBW := hide (hBx.out.trans (BelX.of K hBw))
          have HRW := hide (show HpRow base w8 (.slice (some ⟨g, 0, none⟩) n cap) hs' from hR.out.kept (ograwn K) (.inr (by simp [Value.ownBlock])))
          clear K CF1 CA1 e4
          replace e3 := e3.out
          have hcn : c < n := by omega
          have hac : a < c := by have := HCC.out; omega
          have CF2 := hide (fun (U : World) (k : Below w8.heap.size w8 U) => And.intro (CL.out w8 HRW.out HBW.out.size c hcn _ HY.out U k) (CL.out w8 HRW.out HBW.out.size a han _ HX.out U k))
          obtain ⟨av, hav⟩ : ∃ z, ahF f ((y1, y2), y3) ((x1, x2), x3) = z := ⟨_, rfl⟩
          have CA2 := hide (CA.out w8 HBW.out ((y1, y2), y3) ((x1, x2), x3))
          rw [hav] at CA2
          have HLW : Hid (low (ahF f) hs' a = c) := hide (by rw [low, if_neg (by rw [HBV.out]; simp), HCC.out])
          have HAV := hide (show ahF f (hAt hs' (low (ahF f) hs' a)) (hAt hs' a) = av by rw [HLW.out, HX.out, HY.out]; exact hav)
          clear hav CA CL
          have KW : Below w8.heap.size w8 w8.drew := (Below.refl _ _).drew
          have hrl : 2 * a + 1 < hs'.length := by rw [hL.out, HCC.out]; exact h0
          have HRL := hide hrl
          clear hrl
          cases av with
          | false =>
            have HE := hide (show hs' = Z by rw [← hZ.out, sinkF, dif_pos HRL.out, HAV.out]; rfl)
            go_wp2
            first | go_region_held3 (fun u => (u.cell? ⟨g, c * 3, none⟩ = some (.int .i64 y1) ∧ u.cell? ⟨g, c * 3 + 1, none⟩ = some (.int .i64 y2) ∧ u.cell? ⟨g, c * 3 + 2, none⟩ = some (.int .i64 y3)) ∧ (u.cell? ⟨g, a * 3, none⟩ = some (.int .i64 x1) ∧ u.cell? ⟨g, a * 3 + 1, none⟩ = some (.int .i64 x2) ∧ u.cell? ⟨g, a * 3 + 2, none⟩ = some (.int .i64 x3)))
              (first | with_reducible exact CF2.out _ KW | go_keep)
              (first | (go_at_call 31; (with_reducible refine (CA2.out _ KW).mono ?_); rintro e w9 ⟨rfl, hb⟩; replace KW := KW.trans (hb.mono KW.size); clear hb)) | fail "region"
            have HB9 := hide (HBW.out.trans (BelX.of KW HBW.out.size))
            have HR9 := hide (show HpRow base _ (.slice (some ⟨g, 0, none⟩) n cap) hs' from HRW.out.kept (ograwn KW) (.inr (by simp [Value.ownBlock])))
            clear KW
            go_wp2
            refine bodyPost_ret (results_none rfl _ _ _) rfl ?_
            exact ⟨rfl, by rw [← HE.out]; exact HR9.out, HB9.out⟩
          | true =>
            have HE : Hid (sinkF (ahF f) (swp hs' a c) c = Z) := hide (by rw [← hZ.out]; conv => { rhs; rw [sinkF, dif_pos HRL.out, HAV.out, if_pos rfl, HLW.out] })
            go_wp2
            first | go_region_held3 (fun u => (u.cell? ⟨g, c * 3, none⟩ = some (.int .i64 y1) ∧ u.cell? ⟨g, c * 3 + 1, none⟩ = some (.int .i64 y2) ∧ u.cell? ⟨g, c * 3 + 2, none⟩ = some (.int .i64 y3)) ∧ (u.cell? ⟨g, a * 3, none⟩ = some (.int .i64 x1) ∧ u.cell? ⟨g, a * 3 + 1, none⟩ = some (.int .i64 x2) ∧ u.cell? ⟨g, a * 3 + 2, none⟩ = some (.int .i64 x3)))
              (first | with_reducible exact CF2.out _ KW | go_keep)
              (first | (go_at_call 31; (with_reducible refine (CA2.out _ KW).mono ?_); rintro e w9 ⟨rfl, hb⟩; replace KW := KW.trans (hb.mono KW.size); clear hb)) | fail "region"
            have HB9 := hide (HBW.out.trans (BelX.of KW HBW.out.size))
            have HR9 := hide (show HpRow base w9 (.slice (some ⟨g, 0, none⟩) n cap) hs' from HRW.out.kept (ograwn KW) (.inr (by simp [Value.ownBlock])))
            obtain ⟨⟨f0, f1, f2⟩, f3, f4, f5⟩ := CF2.out _ KW
            have fz := hide (fun i => World.ownsRow.frozenAt (show w9.ownsRow base 48 3 (.slice (some ⟨g, 0, none⟩) n cap) n (flat3 hs') by have := HR9.out; unfold HpRow at this; rw [hL.out] at this; exact this) i)
            have z0 := fz.out (c * 3)
            have z1 := fz.out (c * 3 + 1)
            have z2 := fz.out (c * 3 + 2)
            have z3 := fz.out (a * 3)
            have z4 := fz.out (a * 3 + 1)
            have z5 := fz.out (a * 3 + 2)
            have HSD := hide (swap_done HR9.out hL.out han hcn HX.out HY.out HB9.out)
            have hne2 : a ≠ c := by omega
            clear KW CF2 CA2
            go_wp2
            go_region
            go_wp2
            exact ⟨⟨c, swp hs' a c, rfl, by omega, hide HSD.out.1, hide (by rw [swp_len]; exact hL.out), HE, hide HSD.out.2⟩, by simp only [intOf, Int.toNat_natCast]; omega⟩
        | true =>
          go_wp2
          first | go_region_held3 (fun u => (u.cell? ⟨g, d * 3, none⟩ = some (.int .i64 v1) ∧ u.cell? ⟨g, d * 3 + 1, none⟩ = some (.int .i64 v2) ∧ u.cell? ⟨g, d * 3 + 2, none⟩ = some (.int .i64 v3)) ∧ (u.cell? ⟨g, c * 3, none⟩ = some (.int .i64 y1) ∧ u.cell? ⟨g, c * 3 + 1, none⟩ = some (.int .i64 y2) ∧ u.cell? ⟨g, c * 3 + 2, none⟩ = some (.int .i64 y3)))
            (first | with_reducible exact CF1.out _ K | go_keep)
            (first | (go_at_call 31; (with_reducible refine (CA1.out _ K).mono ?_); rintro e w8 ⟨rfl, hb⟩; replace K := K.trans (hb.mono K.size); clear hb)) | fail "region"
          have HBW := hide (hBx.out.trans (BelX.of K hBw))
          have HRW := hide (show HpRow base w8 (.slice (some ⟨g, 0, none⟩) n cap) hs' from hR.out.kept (ograwn K) (.inr (by simp [Value.ownBlock])))
          clear K CF1 CA1 e4
          replace e3 := e3.out
          have q6 : (d : Int) < (n : Int) := by omega
          have hcn : d < n := by omega
          have hac : a < d := by have := HCC.out; omega
          have CF2 := hide (fun (U : World) (k : Below w8.heap.size w8 U) => And.intro (CL.out w8 HRW.out HBW.out.size d hcn _ HV.out U k) (CL.out w8 HRW.out HBW.out.size a han _ HX.out U k))
          obtain ⟨av, hav⟩ : ∃ z, ahF f ((v1, v2), v3) ((x1, x2), x3) = z := ⟨_, rfl⟩
          have CA2 := hide (CA.out w8 HBW.out ((v1, v2), v3) ((x1, x2), x3))
          rw [hav] at CA2
          have HLW : Hid (low (ahF f) hs' a = d) := hide (by rw [low, if_pos ⟨by rw [hL.out]; have := HD.out; have := HCC.out; omega, HBV.out⟩]; have := HD.out; have := HCC.out; omega)
          have HAV := hide (show ahF f (hAt hs' (low (ahF f) hs' a)) (hAt hs' a) = av by rw [HLW.out, HX.out, HV.out]; exact hav)
          clear hav CA CL
          have KW : Below w8.heap.size w8 w8.drew := (Below.refl _ _).drew
          have hrl : 2 * a + 1 < hs'.length := by rw [hL.out, HCC.out]; exact h0
          have HRL := hide hrl
          clear hrl
          cases av with
          | false =>
            have HE := hide (show hs' = Z by rw [← hZ.out, sinkF, dif_pos HRL.out, HAV.out]; rfl)
            go_wp2
            first | go_region_held3 (fun u => (u.cell? ⟨g, d * 3, none⟩ = some (.int .i64 v1) ∧ u.cell? ⟨g, d * 3 + 1, none⟩ = some (.int .i64 v2) ∧ u.cell? ⟨g, d * 3 + 2, none⟩ = some (.int .i64 v3)) ∧ (u.cell? ⟨g, a * 3, none⟩ = some (.int .i64 x1) ∧ u.cell? ⟨g, a * 3 + 1, none⟩ = some (.int .i64 x2) ∧ u.cell? ⟨g, a * 3 + 2, none⟩ = some (.int .i64 x3)))
              (first | with_reducible exact CF2.out _ KW | go_keep)
              (first | (go_at_call 31; (with_reducible refine (CA2.out _ KW).mono ?_); rintro e w9 ⟨rfl, hb⟩; replace KW := KW.trans (hb.mono KW.size); clear hb)) | fail "region"
            have HB9 := hide (HBW.out.trans (BelX.of KW HBW.out.size))
            have HR9 := hide (show HpRow base _ (.slice (some ⟨g, 0, none⟩) n cap) hs' from HRW.out.kept (ograwn KW) (.inr (by simp [Value.ownBlock])))
            clear KW
            go_wp2
            refine bodyPost_ret (results_none rfl _ _ _) rfl ?_
            exact ⟨rfl, by rw [← HE.out]; exact HR9.out, HB9.out⟩
          | true =>
            have HE : Hid (sinkF (ahF f) (swp hs' a d) d = Z) := hide (by rw [← hZ.out]; conv => { rhs; rw [sinkF, dif_pos HRL.out, HAV.out, if_pos rfl, HLW.out] })
            go_wp2
            first | go_region_held3 (fun u => (u.cell? ⟨g, d * 3, none⟩ = some (.int .i64 v1) ∧ u.cell? ⟨g, d * 3 + 1, none⟩ = some (.int .i64 v2) ∧ u.cell? ⟨g, d * 3 + 2, none⟩ = some (.int .i64 v3)) ∧ (u.cell? ⟨g, a * 3, none⟩ = some (.int .i64 x1) ∧ u.cell? ⟨g, a * 3 + 1, none⟩ = some (.int .i64 x2) ∧ u.cell? ⟨g, a * 3 + 2, none⟩ = some (.int .i64 x3)))
              (first | with_reducible exact CF2.out _ KW | go_keep)
              (first | (go_at_call 31; (with_reducible refine (CA2.out _ KW).mono ?_); rintro e w9 ⟨rfl, hb⟩; replace KW := KW.trans (hb.mono KW.size); clear hb)) | fail "region"
            have HB9 := hide (HBW.out.trans (BelX.of KW HBW.out.size))
            have HR9 := hide (show HpRow base w9 (.slice (some ⟨g, 0, none⟩) n cap) hs' from HRW.out.kept (ograwn KW) (.inr (by simp [Value.ownBlock])))
            obtain ⟨⟨f0, f1, f2⟩, f3, f4, f5⟩ := CF2.out _ KW
            have fz := hide (fun i => World.ownsRow.frozenAt (show w9.ownsRow base 48 3 (.slice (some ⟨g, 0, none⟩) n cap) n (flat3 hs') by have := HR9.out; unfold HpRow at this; rw [hL.out] at this; exact this) i)
            have z0 := fz.out (d * 3)
            have z1 := fz.out (d * 3 + 1)
            have z2 := fz.out (d * 3 + 2)
            have z3 := fz.out (a * 3)
            have z4 := fz.out (a * 3 + 1)
            have z5 := fz.out (a * 3 + 2)
            have HSD := hide (swap_done HR9.out hL.out han hcn HX.out HV.out HB9.out)
            have hne2 : a ≠ d := by omega
            clear KW CF2 CA2
            go_wp2
            go_region
            go_wp2
            exact ⟨⟨d, swp hs' a d, rfl, by omega, hide HSD.out.1, hide (by rw [swp_len]; exact hL.out), HE, hide HSD.out.2⟩, by simp only [intOf, Int.toNat_natCast]; omega⟩
      · have d3 : decide ((c : Int) + 1 < (n : Int)) = false := by simp; omega
        go_wp2
        go_quiet (fail)
        obtain ⟨w8, hU⟩ : ∃ U, wr.drewN nq = U := ⟨_, rfl⟩
        have K : Below wr.heap.size wr w8 := by rw [← hU]; exact obel_drewN wr nq
        rw [hU]
        clear hU
        have HBW := hide (hBx.out.trans (BelX.of K hBw))
        have HRW := hide (show HpRow base w8 (.slice (some ⟨g, 0, none⟩) n cap) hs' from hR.out.kept (ograwn K) (.inr (by simp [Value.ownBlock])))
        clear K
        have hcn : c < n := by omega
        have hac : a < c := by have := HCC.out; omega
        have CF2 := hide (fun (U : World) (k : Below w8.heap.size w8 U) => And.intro (CL.out w8 HRW.out HBW.out.size c hcn _ HY.out U k) (CL.out w8 HRW.out HBW.out.size a han _ HX.out U k))
        obtain ⟨av, hav⟩ : ∃ z, ahF f ((y1, y2), y3) ((x1, x2), x3) = z := ⟨_, rfl⟩
        have CA2 := hide (CA.out w8 HBW.out ((y1, y2), y3) ((x1, x2), x3))
        rw [hav] at CA2
        have HLW : Hid (low (ahF f) hs' a = c) := hide (by rw [low, if_neg (by rw [hL.out]; have := HCC.out; omega), HCC.out])
        have HAV := hide (show ahF f (hAt hs' (low (ahF f) hs' a)) (hAt hs' a) = av by rw [HLW.out, HX.out, HY.out]; exact hav)
        clear hav CA CL
        have KW : Below w8.heap.size w8 w8.drew := (Below.refl _ _).drew
        have hrl : 2 * a + 1 < hs'.length := by rw [hL.out, HCC.out]; exact h0
        have HRL := hide hrl
        clear hrl
        cases av with
        | false =>
          have HE := hide (show hs' = Z by rw [← hZ.out, sinkF, dif_pos HRL.out, HAV.out]; rfl)
          go_wp2
          first | go_region_held3 (fun u => (u.cell? ⟨g, c * 3, none⟩ = some (.int .i64 y1) ∧ u.cell? ⟨g, c * 3 + 1, none⟩ = some (.int .i64 y2) ∧ u.cell? ⟨g, c * 3 + 2, none⟩ = some (.int .i64 y3)) ∧ (u.cell? ⟨g, a * 3, none⟩ = some (.int .i64 x1) ∧ u.cell? ⟨g, a * 3 + 1, none⟩ = some (.int .i64 x2) ∧ u.cell? ⟨g, a * 3 + 2, none⟩ = some (.int .i64 x3)))
            (first | with_reducible exact CF2.out _ KW | go_keep)
            (first | (go_at_call 31; (with_reducible refine (CA2.out _ KW).mono ?_); rintro e w9 ⟨rfl, hb⟩; replace KW := KW.trans (hb.mono KW.size); clear hb)) | fail "region"
          have HB9 := hide (HBW.out.trans (BelX.of KW HBW.out.size))
          have HR9 := hide (show HpRow base _ (.slice (some ⟨g, 0, none⟩) n cap) hs' from HRW.out.kept (ograwn KW) (.inr (by simp [Value.ownBlock])))
          clear KW
          go_wp2
          refine bodyPost_ret (results_none rfl _ _ _) rfl ?_
          exact ⟨rfl, by rw [← HE.out]; exact HR9.out, HB9.out⟩
        | true =>
          have HE : Hid (sinkF (ahF f) (swp hs' a c) c = Z) := hide (by rw [← hZ.out]; conv => { rhs; rw [sinkF, dif_pos HRL.out, HAV.out, if_pos rfl, HLW.out] })
          go_wp2
          first | go_region_held3 (fun u => (u.cell? ⟨g, c * 3, none⟩ = some (.int .i64 y1) ∧ u.cell? ⟨g, c * 3 + 1, none⟩ = some (.int .i64 y2) ∧ u.cell? ⟨g, c * 3 + 2, none⟩ = some (.int .i64 y3)) ∧ (u.cell? ⟨g, a * 3, none⟩ = some (.int .i64 x1) ∧ u.cell? ⟨g, a * 3 + 1, none⟩ = some (.int .i64 x2) ∧ u.cell? ⟨g, a * 3 + 2, none⟩ = some (.int .i64 x3)))
            (first | with_reducible exact CF2.out _ KW | go_keep)
            (first | (go_at_call 31; (with_reducible refine (CA2.out _ KW).mono ?_); rintro e w9 ⟨rfl, hb⟩; replace KW := KW.trans (hb.mono KW.size); clear hb)) | fail "region"
          have HB9 := hide (HBW.out.trans (BelX.of KW HBW.out.size))
          have HR9 := hide (show HpRow base w9 (.slice (some ⟨g, 0, none⟩) n cap) hs' from HRW.out.kept (ograwn KW) (.inr (by simp [Value.ownBlock])))
          obtain ⟨⟨f0, f1, f2⟩, f3, f4, f5⟩ := CF2.out _ KW
          have fz := hide (fun i => World.ownsRow.frozenAt (show w9.ownsRow base 48 3 (.slice (some ⟨g, 0, none⟩) n cap) n (flat3 hs') by have := HR9.out; unfold HpRow at this; rw [hL.out] at this; exact this) i)
          have z0 := fz.out (c * 3)
          have z1 := fz.out (c * 3 + 1)
          have z2 := fz.out (c * 3 + 2)
          have z3 := fz.out (a * 3)
          have z4 := fz.out (a * 3 + 1)
          have z5 := fz.out (a * 3 + 2)
          have HSD := hide (swap_done HR9.out hL.out han hcn HX.out HY.out HB9.out)
          have hne2 : a ≠ c := by omega
          clear KW CF2 CA2
          go_wp2
          go_region
          go_wp2
          exact ⟨⟨c, swp hs' a c, rfl, by omega, hide HSD.out.1, hide (by rw [swp_len]; exact hL.out), HE, hide HSD.out.2⟩, by simp only [intOf, Int.toNat_natCast]; omega⟩
    · have q0 : ¬ (c : Int) < (n : Int) := by omega
      have HE := hide (show hs' = Z by rw [← hZ.out, sinkF, dif_neg (by rw [hL.out, hc]; exact h0)])
      go_wp2
      go_end0
      exact ⟨rfl, by rw [← HE.out]; exact hR.out, hBx.out⟩

end Go.Proofs.Ytboikfcmbfaaeaa

namespace Go.Proofs.Ytboikfcmbfaaeaa
open Go.RowKit Go.Shelf
set_option linter.unusedVariables false
set_option linter.unusedSimpArgs false

theorem ofunc_nil2 {t : TypeId} (h : ∃ a b c, Try.prog.underlying t = some (.func a b c)) (w : World) (f : Fn) (a c : Array Value) : (binOp .neq t (.func f a c) .nilFunc).run Try.prog w = .ok (.bool true) w := by
  obtain ⟨x, y, z, h⟩ := h
  have e : (Op.equalIn (Op.maxDepth - 1 + 1) t (.func f a c) .nilFunc).run Try.prog w = .ok false w := by simp [Op.equalIn, run_underlying h]
  rw [show Op.maxDepth - 1 + 1 = Op.maxDepth from rfl] at e
  simp [binOp, Op.equal, e]

set_option maxRecDepth 100000 in
set_option maxHeartbeats 2000000 in
theorem there_any {w : World} {B g : Nat} {cl : Array Value} (hb : w.cell? ⟨B, 0, none⟩ = some (.func (.func g) #[] cl)) : Calls Try.prog 21 #[.pointer (some ⟨B, 0, none⟩)] w fun e w' => e = .returned (.bool true) ∧ w' = w := by
  have hfn : ∀ (w : World) f a c, (binOp .neq 30 (.func f a c) .nilFunc).run Try.prog w = .ok (.bool true) w := ofunc_nil2 itdesc
  go_enter Try.func21, Try.ntmps21
  go_wp2
  go_ret
  exact ⟨rfl, rfl⟩

set_option maxRecDepth 100000 in
set_option maxHeartbeats 2000000 in
theorem len_any {w : World} {B g n cap : Nat} {ao : Option Addr} {cl : Array Value} {came : Int} (h : BagAt w B (.func (.func g) #[] cl) came (.slice ao n cap)) (hn : n ≤ 1099511627776) : Calls Try.prog 8 #[.pointer (some ⟨B, 0, none⟩)] w fun e w' => e = .returned (.int .i64 n) ∧ w' = w := by
  obtain ⟨c0, c1, c2⟩ := h.cells
  go_enter Try.func8, Try.ntmps8
  go_wp2_with fail
  refine (there_any c0).mono ?_
  rintro e w' ⟨rfl, rfl⟩
  go_wp2
  go_ret
  exact ⟨rfl, rfl⟩

set_option maxRecDepth 100000 in
set_option maxHeartbeats 2000000 in
theorem new_any {w : World} {g : Nat} {cl : Array Value} : Calls Try.prog 5 #[.func (.func g) #[] cl] w fun e w' => e = .returned (.pointer (some ⟨w.heap.size, 0, none⟩)) ∧ BagAt w' w.heap.size (.func (.func g) #[] cl) 0 (.slice none 0 0) ∧ Below w.heap.size w w' ∧ w'.heap.size = w.heap.size + 1 := by
  have hfn : ∀ (w : World) f a c, (binOp .eql 30 (.func f a c) .nilFunc).run Try.prog w = .ok (.bool false) w := ofunc_nil itdesc
  go_enter Try.func5, Try.ntmps5
  go_wp2
  go_ret
  exact ⟨rfl, heap_alloc_new w _, (Below.refl _ w).alloc (Nat.le_refl _) _, by simp⟩

theorem bag_ne {base : Nat} {w : World} {B g cap n : Nat} {cv hv : Value} {came : Int} {hs : List Hi} (h : BagAt w B cv came hv) (hr : HpRow base w (.slice (some ⟨g, 0, none⟩) n cap) hs) : B ≠ g := by
  rintro rfl
  rcases hr.2 with ⟨e, _⟩ | ⟨g', cap', cur, e, _, hg, _⟩
  · cases e
  · cases e
    rw [show w.heap[B]? = _ from h] at hg
    injection hg with hg
    injection hg with _ hg
    cases hg
theorem HpRow.keepx {X : Nat → Prop} {base m : Nat} {w w' : World} {g cap n : Nat} {hs : List Hi} (h : HpRow base w (.slice (some ⟨g, 0, none⟩) n cap) hs) (hb : BelX X m w w') (hg : g < m) (hx : ¬ X g) : HpRow base w' (.slice (some ⟨g, 0, none⟩) n cap) hs := by
  rcases h.2 with ⟨e, _⟩ | ⟨g', cap', cur, e, hbs, hgg, r⟩
  · cases e
  · cases e
    exact ⟨h.1, .inr ⟨g, cap, cur, rfl, hbs, (hb.block g hg hx).trans hgg, r⟩⟩
theorem HpRow.cut {base : Nat} {w : World} {g cap n : Nat} {hs : List Hi} (hn : hs.length = n) (h : HpRow base w (.slice (some ⟨g, 0, none⟩) n cap) hs) {k : Nat} (hk : k ≤ n) : HpRow base w (.slice (some ⟨g, 0, none⟩) k cap) (hs.take k) := by
  subst hn
  rcases h.2 with ⟨e, _⟩ | ⟨g', cap', cur, e, hbs, hgg, h1, h2, h3, h4⟩
  · cases e
  · cases e
    have hl : (hs.take k).length = k := by rw [List.length_take]; omega
    refine ⟨by rw [flat3_len], .inr ⟨g, cap, cur, by rw [hl], hbs, hgg, by omega, h2, h3, ?_⟩⟩
    rw [hl, flat3_take, ← h4, List.take_take]
    congr 1
    omega
theorem BagAt.set2 {w : World} {B : Nat} {cv hv : Value} {came : Int} (h : BagAt w B cv came hv) (v : Value) : BagAt (w.setCell ⟨B, 2, none⟩ v) B cv came v := by
  unfold BagAt
  rw [heap_setCell_same w B 2 _ _ _ h]
  simp
theorem BagAt.set1 {w : World} {B : Nat} {cv hv : Value} {came : Int} (h : BagAt w B cv came hv) (c : Int) : BagAt (w.setCell ⟨B, 1, none⟩ (.int .i64 c)) B cv c hv := by
  unfold BagAt
  rw [heap_setCell_same w B 1 _ _ _ h]
  simp
/-- what is left when the least is taken -/
def tkF (f : It → It → Int) (hs : List Hi) : List Hi := sinkF (ahF f) ((hs.set 0 (hAt hs (hs.length - 1))).take (hs.length - 1)) 0

set_option maxRecDepth 100000 in
set_option maxHeartbeats 16000000 in
theorem take_any {w : World} {base B g cap n : Nat} {cv : Value} {came : Int} {hs : List Hi} {f : It → It → Int} {I : World → Prop} (hbag : BagAt w B cv came (.slice (some ⟨g, 0, none⟩) n cap)) (hrow : HpRow base w (.slice (some ⟨g, 0, none⟩) n cap) hs) (hg : g < w.heap.size) (hn : hs.length = n) (hn1 : 1 ≤ n) (hn2 : n ≤ 1099511627776) (hcap : n ≤ cap) (hcm : cap ≤ maxLen) (hc : CmpIs I cv f) (hI : ∀ W, BelX (fun k => k = g ∨ k = B) w.heap.size w W → I W) :
    Calls Try.prog 9 #[.pointer (some ⟨B, 0, none⟩)] w fun e w' => e = .returned (.tuple #[itV (hAt hs 0).1, .bool true]) ∧ BagAt w' B cv came (.slice (some ⟨g, 0, none⟩) (n - 1) cap) ∧ HpRow base w' (.slice (some ⟨g, 0, none⟩) (n - 1) cap) (tkF f hs) ∧ BelX (fun k => k = g ∨ k = B) w.heap.size w w' := by
  obtain ⟨cg, cl, rfl, eg, hcall⟩ := hc.val
  have hne := bag_ne hbag hrow
  have hBl := hbag.lt
  unfold maxLen at hcm
  obtain ⟨⟨⟨x1, x2⟩, x3⟩, hx⟩ : ∃ x, hAt hs 0 = x := ⟨_, rfl⟩
  obtain ⟨⟨⟨y1, y2⟩, y3⟩, hy⟩ : ∃ x, hAt hs (n - 1) = x := ⟨_, rfl⟩
  have cx := hrow.cell hn (i := 0) (by omega)
  have cy := hrow.cell hn (i := n - 1) (by omega)
  rw [← hAt_eq (by omega), hx] at cx
  rw [← hAt_eq (by omega), hy] at cy
  obtain ⟨c0, c1, c2⟩ := hbag.cells
  obtain ⟨m, hm⟩ : ∃ m, n - 1 = m := ⟨_, rfl⟩
  rw [hm] at cy hy
  have q0 : ((n : Int) == 0) = false := by rw [beq_eq_false_iff_ne]; omega
  have e1 : IntKind.i64.wrap ((n : Int) - 1) = (m : Int) := by rw [IntKind.wrap_i64]; omega
  have HL := hide (fun (U : World) (h : BagAt U B (.func (.func cg) #[] cl) came (.slice (some ⟨g, 0, none⟩) n cap)) => len_any h hn2)
  have b0 : BagAt (w.alloc (.cells #[.int .i64 0, .int .i64 0] 29)) B (.func (.func cg) #[] cl) came (.slice (some ⟨g, 0, none⟩) n cap) := hbag.keep (Below.heap_alloc _ _ _ hBl)
  have HB0 := hide b0
  rw [hm]
  simp at cx
  clear b0 hcall
  go_enter Try.func9, Try.ntmps9
  go_wp2_with fail
  refine (HL.out _ HB0.out).mono ?_
  rintro e w' ⟨rfl, rfl⟩
  obtain ⟨W1, hW1⟩ : ∃ u, w.alloc (.cells #[.int .i64 0, .int .i64 0] 29) = u := ⟨_, rfl⟩
  have K1 : Below w.heap.size w W1 := by rw [← hW1]; exact (Below.refl _ w).alloc (Nat.le_refl _) _
  have hs1 : W1.heap.size = w.heap.size + 1 := by rw [← hW1]; simp
  have HR1 : Hid (W1.heap[w.heap.size]? = some (.cells #[.int .i64 0, .int .i64 0] 29 (0, 0))) := hide (by rw [← hW1]; exact heap_alloc_new w _)
  have d0 := (K1.cell (p := ⟨B, 0, none⟩) hBl).trans c0
  have d2 := (K1.cell (p := ⟨B, 2, none⟩) hBl).trans c2
  have g0 := (K1.cell (p := ⟨g, 0, none⟩) hg).trans cx.1
  have g1 := (K1.cell (p := ⟨g, 1, none⟩) hg).trans cx.2.1
  have g2 := (K1.cell (p := ⟨g, 2, none⟩) hg).trans cx.2.2
  have A2 : ∀ o, (W1.alloc o).cell? ⟨B, 2, none⟩ = some (.slice (some ⟨g, 0, none⟩) n cap) := fun o => (World.cell?_of_block (a := ⟨B, 2, none⟩) (Below.heap_alloc W1 o B (by omega))).trans d2
  have G0 : ∀ o, (W1.alloc o).cell? ⟨g, 0, none⟩ = some (.int .i64 x1) := fun o => (World.cell?_of_block (a := ⟨g, 0, none⟩) (Below.heap_alloc W1 o g (by omega))).trans g0
  have G1 : ∀ o, (W1.alloc o).cell? ⟨g, 1, none⟩ = some (.int .i64 x2) := fun o => (World.cell?_of_block (a := ⟨g, 1, none⟩) (Below.heap_alloc W1 o g (by omega))).trans g1
  have G2 : ∀ o, (W1.alloc o).cell? ⟨g, 2, none⟩ = some (.int .i64 x3) := fun o => (World.cell?_of_block (a := ⟨g, 2, none⟩) (Below.heap_alloc W1 o g (by omega))).trans g2
  have hn0 : 0 < n := hn1
  have HS1 := hide hs1
  have HBAG := hide hbag
  have HROW := hide hrow
  have HCX := hide cx
  have HCY := hide cy
  have HK1 := hide K1
  rw [hW1]
  clear hW1 c0 c1 c2 cx cy K1 hs1 hbag hrow HL HB0
  go_wp2
  go_region
  go_wp2
  obtain ⟨W2, hW2⟩ : ∃ u, (W1.alloc (.cells #[.int .i64 x1, .int .i64 x2, .int .i64 x3] 48)).drew = u := ⟨_, rfl⟩
  have K2 : Below W1.heap.size W1 W2 := by rw [← hW2]; exact ((Below.refl _ W1).alloc (Nat.le_refl _) _).drew
  have HK2 : Hid (Below w.heap.size w W2) := hide (HK1.out.trans (K2.mono HK1.out.size))
  have HS2 : Hid (W2.heap.size = w.heap.size + 2) := hide (by rw [← hW2]; have := HS1.out; show (W1.alloc _).heap.size = _; simp; omega)
  have HF2 : Hid (W2.heap[W1.heap.size]? = some (.cells #[.int .i64 x1, .int .i64 x2, .int .i64 x3] 48 (0, 0))) := hide (by rw [← hW2]; exact heap_alloc_new W1 _)
  have HR2 : Hid (W2.heap[w.heap.size]? = some (.cells #[.int .i64 0, .int .i64 0] 29 (0, 0))) := hide ((K2.block _ (by have := HS1.out; omega)).trans HR1.out)
  have HBG2 : Hid (BagAt W2 B (.func (.func cg) #[] cl) came (.slice (some ⟨g, 0, none⟩) n cap)) := hide (HBAG.out.keep (HK2.out.block _ hBl))
  have HRW2 : Hid (HpRow base W2 (.slice (some ⟨g, 0, none⟩) n cap) hs) := hide (HROW.out.kept (ograwn HK2.out) (.inr (by simp [Value.ownBlock])))
  have c2 := HBG2.out.cells.2.2
  have g0' := (HK2.out.cell (p := ⟨g, 0, none⟩) hg).trans HCX.out.1
  have g1' := (HK2.out.cell (p := ⟨g, 1, none⟩) hg).trans HCX.out.2.1
  have g2' := (HK2.out.cell (p := ⟨g, 2, none⟩) hg).trans HCX.out.2.2
  have l0 := (HK2.out.cell (p := ⟨g, _, none⟩) hg).trans HCY.out.1
  have l1 := (HK2.out.cell (p := ⟨g, _, none⟩) hg).trans HCY.out.2.1
  have l2 := (HK2.out.cell (p := ⟨g, _, none⟩) hg).trans HCY.out.2.2
  have FZ2 := hide (fun i => World.ownsRow.frozenAt (show W2.ownsRow base 48 3 (.slice (some ⟨g, 0, none⟩) n cap) n (flat3 hs) by have := HRW2.out; unfold HpRow at this; rw [hn] at this; exact this) i)
  have z0 := FZ2.out 0
  have z1 := FZ2.out 1
  have z2 := FZ2.out 2
  have q2 : (m : Int) < (n : Int) := by omega
  have HW12 := hide (show W1.heap.size = w.heap.size + 1 from HS1.out)
  rw [hW2]
  clear hW2 A2 G0 G1 G2 d0 d2 g0 g1 g2 K2
  go_region
  obtain ⟨W3, hW3⟩ : ∃ u, (((W2.setCell ⟨g, 0, none⟩ (.int .i64 y1)).setCell ⟨g, 1, none⟩ (.int .i64 y2)).setCell ⟨g, 2, none⟩ (.int .i64 y3)).drew = u := ⟨_, rfl⟩
  have hXg : (fun k => k = g ∨ k = B) g := .inl rfl
  have hXB : (fun k => k = g ∨ k = B) B := .inr rfl
  have HK3 : Hid (BelX (fun k => k = g ∨ k = B) W2.heap.size W2 W3) := hide (by rw [← hW3]; exact (((belx_set _ _ hXg).trans (belx_set _ _ hXg)).trans (belx_set _ _ hXg)).drew)
  have HRW3 : Hid (HpRow base W3 (.slice (some ⟨g, 0, none⟩) n cap) (hs.set 0 ((y1, y2), y3))) := hide (by rw [← hW3]; exact (HRW2.out.set hn (i := 0) hn0 ((y1, y2), y3)).drew)
  have HX3 : Hid (BelX (fun k => k = g) W2.heap.size W2 W3) := hide (by
    rw [← hW3]
    exact (((belx_set (X := fun k => k = g) _ _ rfl).trans (belx_set (X := fun k => k = g) _ _ rfl)).trans (belx_set (X := fun k => k = g) _ _ rfl)).drew)
  have hs3 : W3.heap.size = W2.heap.size := by rw [← hW3]; show (World.setCell _ _ _).heap.size = _; simp
  have HBG3 : Hid (BagAt W3 B (.func (.func cg) #[] cl) came (.slice (some ⟨g, 0, none⟩) n cap)) := hide (HBG2.out.keep (HX3.out.block _ (by have := HS2.out; omega) hne))
  have hl3 : (hs.set 0 ((y1, y2), y3)).length = n := by rw [List.length_set]; exact hn
  have hmn : m < n := by omega
  have t0 := HRW3.out.cell hl3 hmn
  have FZ3 := hide (fun i => World.ownsRow.frozenAt (show W3.ownsRow base 48 3 (.slice (some ⟨g, 0, none⟩) n cap) n (flat3 (hs.set 0 ((y1, y2), y3))) by have := HRW3.out; unfold HpRow at this; rw [hl3] at this; exact this) i)
  obtain ⟨t0, t1, t2⟩ := t0
  have f0 := FZ3.out (m * 3)
  have f1 := FZ3.out (m * 3 + 1)
  have f2 := FZ3.out (m * 3 + 2)
  obtain ⟨b0, b1, b2⟩ := HBG3.out.cells
  have fb := HBG3.out.frozen 2
  obtain ⟨W4, hW4⟩ : ∃ u, ((W3.setCell ⟨g, m * 3, none⟩ (.int .i64 0)).setCell ⟨g, m * 3 + 1, none⟩ (.int .i64 0)).setCell ⟨g, m * 3 + 2, none⟩ (.int .i64 0) = u := ⟨_, rfl⟩
  have HRW4 : Hid (HpRow base W4 (.slice (some ⟨g, 0, none⟩) n cap) ((hs.set 0 ((y1, y2), y3)).set m ((0, 0), 0))) := hide (by rw [← hW4]; exact HRW3.out.set hl3 hmn ((0, 0), 0))
  have HX4 : Hid (BelX (fun k => k = g) W2.heap.size W3 W4) := hide (by
    rw [← hW4]
    exact ((belx_set (X := fun k => k = g) _ _ rfl).trans (belx_set (X := fun k => k = g) _ _ rfl)).trans (belx_set (X := fun k => k = g) _ _ rfl))
  have hs4 : W4.heap.size = W3.heap.size := by rw [← hW4]; simp
  have HBG4 : Hid (BagAt W4 B (.func (.func cg) #[] cl) came (.slice (some ⟨g, 0, none⟩) n cap)) := hide (HBG3.out.keep (HX4.out.block _ (by have := HS2.out; omega) hne))
  obtain ⟨W5, hW5⟩ : ∃ u, W4.setCell ⟨B, 2, none⟩ (.slice (some ⟨g, 0, none⟩) m cap) = u := ⟨_, rfl⟩
  have HBG5 : Hid (BagAt W5 B (.func (.func cg) #[] cl) came (.slice (some ⟨g, 0, none⟩) m cap)) := hide (by rw [← hW5]; exact HBG4.out.set2 _)
  have hs5 : W5.heap.size = W4.heap.size := by rw [← hW5]; simp
  have hX5 : BelX (fun k => k = B) W2.heap.size W4 W5 := by
    rw [← hW5]
    exact belx_set (X := fun k => k = B) _ _ rfl
  have h2 := HS2.out
  have HRW5 : Hid (HpRow base W5 (.slice (some ⟨g, 0, none⟩) m cap) ((hs.set 0 ((y1, y2), y3)).take m)) := hide (by
    have := (HRW4.out.keepx hX5 (by omega) (fun e => hne e.symm)).cut (by rw [List.length_set]; exact hl3) (k := m) (by omega)
    rw [List.take_set_of_le (Nat.le_refl _)] at this
    exact this)
  have HX25 : Hid (BelX (fun k => k = g ∨ k = B) W2.heap.size W2 W5) := hide ((HX3.out.mono (Nat.le_refl _) (fun _ _ h => .inl h)).trans ((HX4.out.mono (Nat.le_refl _) (fun _ _ h => .inl h)).trans (hX5.mono (Nat.le_refl _) (fun _ _ h => .inr h))))
  have HX5 : Hid (BelX (fun k => k = g ∨ k = B) w.heap.size w W5) := hide ((BelX.of HK2.out (Nat.le_refl _)).trans (HX25.out.mono (by omega) (fun _ _ h => h)))
  have hl5 : ((hs.set 0 ((y1, y2), y3)).take m).length = m := by rw [List.length_take, hl3]; omega
  have SK := hide (sink_any (w := W5) (I := I) HBG5.out.cells.1 HBG5.out.lt hne (by omega) HRW5.out hl5 (by omega) hc (fun W k => hI W (HX5.out.trans (k.mono (by omega) (fun _ _ h => .inl h)))))
  have HTK : Hid (tkF f hs = sinkF (ahF f) ((hs.set 0 ((y1, y2), y3)).take m) 0) := hide (by rw [tkF, hn, hm, hy])
  have HSZ := hide (show W5.heap.size = w.heap.size + 2 by omega)
  have HF5 : Hid (W5.heap[W1.heap.size]? = some (.cells #[.int .i64 x1, .int .i64 x2, .int .i64 x3] 48 (0, 0))) := hide ((HX25.out.block _ (by have := HW12.out; omega) (by have := HW12.out; omega)).trans HF2.out)
  have HR5 : Hid (W5.heap[w.heap.size]? = some (.cells #[.int .i64 0, .int .i64 0] 29 (0, 0))) := hide ((HX25.out.block _ (by omega) (by omega)).trans HR2.out)
  have hmc : m ≤ cap := by omega
  have q3 : (m : Int) ≤ (cap : Int) := by omega
  have j2 := HBG4.out.cells.2.2
  have jf := HBG4.out.frozen 2
  have k2 := HBG5.out.cells.2.2
  rw [hW3]
  clear hW3 c2 g0' g1' g2' l0 l1 l2 z0 z1 z2 hs3 hs4 hs5 hX5 h2 hl5
  go_wp2_with fail
  refine SK.out.mono ?_
  rintro e w6 ⟨rfl, hr6, hx6⟩
  have hsz := HSZ.out
  have hw1 := HW12.out
  have HBG6 : Hid (BagAt w6 B (.func (.func cg) #[] cl) came (.slice (some ⟨g, 0, none⟩) m cap)) := hide (HBG5.out.keep (hx6.block _ HBG5.out.lt hne))
  have F6 := (hx6.block W1.heap.size (by omega) (by omega)).trans HF5.out
  have R6 := (hx6.block w.heap.size (by omega) (by omega)).trans HR5.out
  have p0 := cell_of_row w6 _ 0 _ _ _ F6
  have p1 := cell_of_row w6 _ 1 _ _ _ F6
  have r0 := cell_of_row w6 _ 0 _ _ _ R6
  have r1 := cell_of_row w6 _ 1 _ _ _ R6
  have rf0 := frozen_of_row w6 _ 0 _ _ R6
  have rf1 := frozen_of_row w6 _ 1 _ _ R6
  simp at p0 p1 r0 r1
  have HX6 : Hid (BelX (fun k => k = g ∨ k = B) w.heap.size w w6) := hide (HX5.out.trans (hx6.mono (by omega) (fun _ _ h => .inl h)))
  have HR6 := hide hr6
  have HR6b := hide R6
  have HE6 : Hid (BelX (fun k => k = w.heap.size) w6.heap.size w6 ((w6.setCell ⟨w.heap.size, 0, none⟩ (.int .i64 x1)).setCell ⟨w.heap.size, 1, none⟩ (.int .i64 x2))) := hide ((belx_set (X := fun k => k = w.heap.size) _ _ rfl).trans (belx_set (X := fun k => k = w.heap.size) _ _ rfl))
  have hs6 := hx6.size
  clear hw1 hsz hr6 hx6 F6 R6 hW4 hW5 j2 jf k2 b0 b1 b2 fb t0 t1 t2 f0 f1 f2
  go_wp2
  obtain ⟨W7, hW7⟩ : ∃ u, (w6.setCell ⟨w.heap.size, 0, none⟩ (.int .i64 x1)).setCell ⟨w.heap.size, 1, none⟩ (.int .i64 x2) = u := ⟨_, rfl⟩
  have R7 : W7.heap[w.heap.size]? = some (.cells #[.int .i64 x1, .int .i64 x2] 29 (0, 0)) := by
    rw [← hW7, heap_setCell_same _ _ 1 _ _ _ (heap_setCell_same w6 _ 0 _ _ _ HR6b.out)]
    simp
  have s0 := cell_of_row W7 _ 0 _ _ _ R7
  have s1 := cell_of_row W7 _ 1 _ _ _ R7
  simp at s0 s1
  rw [hW7]
  have HE7 := HE6.out
  rw [hW7] at HE7
  have hgw : g ≠ w.heap.size := by omega
  have hBw : B ≠ w.heap.size := by omega
  refine bodyPost_ret (v := .tuple #[itV (x1, x2), .bool true]) (by simp [results, Try.results9, go_sem, s0, s1]) rfl ⟨by rw [hx], HBG6.out.keep (HE7.block _ HBG6.out.lt hBw), ?_, HX6.out.trans (HE7.mono (by have := HX6.out.size; omega) (fun k hk h => by omega))⟩
  rw [HTK.out]
  exact HR6.out.keepx HE7 (by have := HX6.out.size; omega) hgw

end Go.Proofs.Ytboikfcmbfaaeaa

namespace Go.Proofs.Ytboikfcmbfaaeaa
open Go.RowKit Go.Shelf
set_option linter.unusedVariables false

theorem mem_mrg {α : Type} {f : α → α → Int} {xs ys : List α} {x : α} : x ∈ mrg f xs ys ↔ x ∈ xs ∨ x ∈ ys := by
  fun_induction mrg f xs ys with
  | case1 ys => simp
  | case2 x xs => simp
  | case3 x xs y ys h ih => simp [ih]; grind
  | case4 x xs y ys h ih => simp [ih]; grind
theorem mem_runs {α : Type} {f : α → α → Int} {s : Nat} {xs : List α} {x : α} : x ∈ runs f s xs ↔ x ∈ xs := by
  fun_induction runs f s xs with
  | case1 xs h => rfl
  | case2 xs h ih =>
    rw [List.mem_append, ih, mem_mrg]
    have e : xs = xs.take s ++ ((xs.drop s).take s ++ xs.drop (2 * s)) := by
      rw [show 2 * s = s + s by omega, ← List.drop_drop, List.take_append_drop, List.take_append_drop]
    conv => rhs; rw [e]
    simp only [List.mem_append]
    grind
theorem mem_srt {α : Type} {f : α → α → Int} {s : Nat} {xs : List α} {x : α} : x ∈ srt f s xs ↔ x ∈ xs := by
  fun_induction srt f s xs with
  | case1 s xs h ih => rw [ih, mem_runs]
  | case2 s xs h => rfl
def Own12N (B : Nat) (w : World) (v : Value) (xs : List Int) : Prop := (xs = [] ∧ v = .slice none 0 0) ∨ ∃ g, v = .slice (some ⟨g, 0, none⟩) xs.length xs.length ∧ B ≤ g ∧ NtRow w g xs ∧ xs.length ≤ maxLen
theorem Own12N.rd {B : Nat} {w : World} {v : Value} {xs : List Int} (h : Own12N B w v xs) : NtRd (fun g => B ≤ g) w v xs := by
  rcases h with ⟨rfl, rfl⟩ | ⟨g, rfl, h1, h2, h3⟩
  · exact ⟨none, 0, rfl, Nat.le_refl _, by unfold maxLen; omega, fun h => absurd h (by simp)⟩
  · exact h2.rd h1 (Nat.le_refl _) h3
theorem ntinfoM : (Try.prog.info? 3).map (fun i => (i.zero, i.size, i.bytes)) = some (some (.int .i64 0), 1, 8) := by kernel_rfl
theorem ntdesc : ∃ a b c, Try.prog.underlying 62 = some (.func a b c) := ⟨#[3, 3], #[3], false, by kernel_rfl⟩
theorem mk_ints {n : Nat} (hn : n ≤ 8796093022208) (w : World) : (Instr.makeSlice 63 (.int .i64 (n : Int)) (.int .i64 (n : Int))).run Try.prog w = .ok (.slice (some ⟨w.heap.size, 0, none⟩) n n) (w.alloc (.cells (flatN (List.replicate n 0)).toArray 3)) := by
  obtain ⟨i0, hi, hz0, hz1, hz2⟩ := info_parts ntinfoM
  have := run_make (P := Try.prog) w 63 3 i0 _ Try.underlying63 hi hz0 .i64 .i64 n n (by omega) (Int.le_refl _) (by rw [hz2]; omega) (by omega)
  rw [this, hz1]
  simp only [Int.toNat_natCast, Nat.mul_one]
  rw [show (Value.int .i64 0).cells = #[Value.int .i64 0] from rfl, replicate_map]
  rfl
set_option maxRecDepth 100000 in
theorem ntinfoC : (Try.prog.info? 3).map (·.size) = some 1 := by kernel_rfl
theorem ntcopy_new {w W : World} {g : Nat} {ao : Option Addr} {ca : Nat} {xs zs : List Int} (hB : Below w.heap.size w W) (hr : NtRow W g zs) (hz : zs.length = xs.length) (ha : NtRd (fun _ => True) w (.slice ao xs.length ca) xs) (hg : w.heap.size ≤ g) (h0 : 0 < xs.length) :
    ∃ W3, (Builtin.copy_ #[63, 63] 3 #[.slice (some ⟨g, 0, none⟩) xs.length xs.length, .slice ao xs.length ca]).run Try.prog W = .ok (.int .i64 xs.length) W3 ∧ NtRow W3 g xs ∧ W.grownBy W3 (some g) := by
  obtain ⟨ao', cap, e, h1, h2, h3⟩ := ha
  obtain ⟨_, _⟩ : ao = ao' ∧ ca = cap := by injection e; exact ⟨by assumption, by assumption⟩
  subst ao' cap
  obtain ⟨b, off, rfl, _, hb, hi⟩ := h3 h0
  have hrun := run_copy_row (P := Try.prog) W 63 63 3 3 g 0 xs.length xs.length ⟨b, off, none⟩ xs.length ca _ 3 (flatN xs) Try.underlying63 ntinfoC hr (by rw [flatN_len, show Nat.min xs.length xs.length = xs.length from Nat.min_self _]) ?_ (by simp [flatN_len, hz]) (fun v hv => by simp only [flatN, List.mem_map] at hv; obtain ⟨x, _, rfl⟩ := hv; rfl)
  · refine ⟨_, hrun.trans (by rw [flatN_len]; rfl), ?_, ?_⟩
    · unfold NtRow
      rw [setRow_heap _ _ _ _ _ _ hr]
      have : (flatN zs).drop xs.length = [] := List.drop_eq_nil_of_le (by rw [flatN_len, hz]; exact Nat.le_refl _)
      rw [List.toList_toArray, Nat.zero_add, this]
      simp
    · exact ⟨rfl, rfl, rfl, by simp [World.setRow], fun k _ hk => setRow_other W g k _ (fun e => hk (by rw [e]))⟩
  · intro j v hj
    have hjl : j < (flatN xs).length := (List.getElem?_eq_some_iff.1 hj).1
    rw [flatN_len] at hjl
    rw [Addr.add_lit]
    have q := hi j hjl
    simp only [flatN, List.getElem?_map, List.getElem?_eq_getElem hjl, Option.map_some] at hj
    rw [← hj]
    exact (hB.cell (p := ⟨b, _, none⟩) hb).trans q
set_option maxRecDepth 100000 in
set_option maxHeartbeats 8000000 in
theorem ntsort_any {w : World} {m : Nat} {va cv : Value} {xs : List Int} {I : World → Prop} {f : Int → Int → Int} (hx : xs.length ≤ 8796093022208) (ha : NtRd (fun _ => True) w va xs) (hc : CmpIsN I cv m f) (hxm : ∀ x ∈ xs, 0 ≤ x ∧ x < (m : Int)) (hIw : I w) (hI : ∀ W W', I W → Below w.heap.size W W' → I W') :
    Calls Try.prog 35 #[va, cv] w fun e w' => (∃ v, e = .returned v ∧ Own12N w.heap.size w' v (srt f 1 xs)) ∧ Below w.heap.size w w' := by
  have hcc := hc
  obtain ⟨cg, cl, rfl, eg, hcall⟩ := hc.val
  have haa := ha
  obtain ⟨ao, ca, rfl, hac, ham, hacl⟩ := ha
  have HA := hide haa
  have HCC := hide hcc
  have HIw := hide hIw
  have HI := hide hI
  have HACL := hide hacl
  unfold maxLen at ham
  clear hcc hc hcall haa hacl hIw hI
  have HXM := hide hxm
  clear hxm
  have hfn : ∀ (w : World) f a c, (binOp .eql 62 (.func f a c) .nilFunc).run Try.prog w = .ok (.bool false) w := ofunc_nil ntdesc
  have mk := mk_ints (n := xs.length) hx
  by_cases h0 : xs.length = 0
  · have q0 : ((xs.length : Int) == 0) = true := by rw [h0]; rfl
    go_enter Try.func35, Try.ntmps35
    go_wp2
    go_ret
    exact ⟨⟨_, rfl, .inl ⟨List.eq_nil_of_length_eq_zero (by rw [srt_len, h0]), rfl⟩⟩, Below.refl _ _⟩
  · have q0 : ((xs.length : Int) == 0) = false := by rw [beq_eq_false_iff_ne]; omega
    go_enter Try.func35, Try.ntmps35
    go_wp2
    go_region
    · skip
      obtain ⟨W2, hW2⟩ : ∃ u, ((w.alloc (.cells (flatN (List.replicate xs.length (0 : Int))).toArray 3)).alloc (.cells (flatN (List.replicate xs.length (0 : Int))).toArray 3)).drew = u := ⟨_, rfl⟩
      have r1 : NtRow W2 w.heap.size (List.replicate xs.length (0 : Int)) := by rw [← hW2]; exact (Below.heap_alloc (w.alloc (.cells (flatN (List.replicate xs.length (0 : Int))).toArray 3)) _ w.heap.size (by simp)).trans (heap_alloc_new w _)
      have r2 : NtRow W2 (w.heap.size + 1) (List.replicate xs.length (0 : Int)) := by
        rw [← hW2]
        have := heap_alloc_new (w.alloc (.cells (flatN (List.replicate xs.length (0 : Int))).toArray 3)) (.cells (flatN (List.replicate xs.length (0 : Int))).toArray 3)
        rw [World.size_alloc] at this
        exact this
      have hB2 : Below w.heap.size w W2 := by rw [← hW2]; exact (((Below.refl _ w).alloc (Nat.le_refl _) _).alloc (by simp) _).drew
      rw [hW2]
      clear hW2 mk
      obtain ⟨W3, hcp, r3, hg3⟩ := ntcopy_new (g := w.heap.size) (w := w) hB2 r1 (by simp) HA.out (by omega) (by omega)
      have r4 : NtRow W3 (w.heap.size + 1) (List.replicate xs.length (0 : Int)) := r2.keep (hg3.block _ r2.lt (by simp))
      have hB3 : Below w.heap.size w W3 := hB2.grown hg3 hB2.size (fun k e => by cases e; omega)
      have R3 := hide r3
      have R4 := hide r4
      have HB3 := hide hB3
      clear r1 r2 r3 r4 hB2 hB3 hg3
      go_wp2
      go_loopw [5, 6, 7] (fun fv iv sv wr => ∃ (a b s : Nat) (ys zs : List Int), fv = .slice (some ⟨a, 0, none⟩) xs.length xs.length ∧ iv = .slice (some ⟨b, 0, none⟩) xs.length xs.length ∧ sv = .int .i64 s ∧ a ≠ b ∧ w.heap.size ≤ a ∧ w.heap.size ≤ b ∧ 0 < s ∧ s ≤ 17592186044416 ∧ Hid (NtRow wr a ys ∧ NtRow wr b zs ∧ ys.length = xs.length ∧ zs.length = xs.length ∧ srt f s ys = srt f 1 xs ∧ Below w.heap.size w wr ∧ ∀ x ∈ ys, x ∈ xs)) (fun _ _ sv _ => xs.length - (intOf sv).toNat)
      case atStart => exact ⟨w.heap.size, w.heap.size + 1, 1, xs, _, rfl, rfl, rfl, by omega, by omega, by omega, by omega, by omega, hide ⟨R3.out, R4.out, rfl, by simp, rfl, HB3.out, fun _ h => h⟩⟩
      case round =>
        obtain ⟨a, b, s, ys, zs, rfl, rfl, rfl, hab, ha, hb, hs0, hs1, H⟩ := hrel
        clear R3 R4 HB3
        by_cases hsl : s < xs.length
        · have q1 : (s : Int) < (xs.length : Int) := by omega
          have c := ntruns_any (w := wr) (gi := b) (ci := xs.length) (s := s) (xs := ys) (ws := zs) (I := I) (f := f) hs0 (by omega) (by rw [H.out.2.2.1]; omega) H.out.2.1 (by rw [H.out.2.2.1, H.out.2.2.2.1]) (by rw [H.out.2.2.1]; exact Nat.le_refl _) (by unfold maxLen; omega) (H.out.1.rd hab (Nat.le_refl _) (by rw [H.out.2.2.1]; unfold maxLen; omega)) HCC.out (fun x hx => HXM.out x (H.out.2.2.2.2.2.2 x hx)) (HI.out _ _ HIw.out H.out.2.2.2.2.2.1) (fun U U' h kk => HI.out U U' h (kk.below H.out.2.2.2.2.2.1.size (fun k hk e => by omega)))
          rw [H.out.2.2.1] at c
          have HC := hide c
          clear c
          go_wp2_with fail
          refine HC.out.mono ?_
          rintro e w1 ⟨rfl, k1, k2⟩
          have H2 : Hid (NtRow w1 b (runs f s ys) ∧ NtRow w1 a ys ∧ (runs f s ys).length = xs.length ∧ ys.length = xs.length ∧ srt f (s * 2) (runs f s ys) = srt f 1 xs ∧ Below w.heap.size w w1 ∧ ∀ x ∈ runs f s ys, x ∈ xs) := hide ⟨k1, H.out.1.keep (k2.block _ H.out.1.lt hab), by rw [runs_len, H.out.2.2.1], H.out.2.2.1, by rw [← H.out.2.2.2.2.1, srt_step f (s := s) (by rw [H.out.2.2.1]; exact hsl) hs0], H.out.2.2.2.2.2.1.trans (k2.below (B := w.heap.size) H.out.2.2.2.2.2.1.size (fun k hk e => by omega)), fun x hx => H.out.2.2.2.2.2.2 x (mem_runs.1 hx)⟩
          clear k1 k2 HC H
          go_wp2
          go_roundw
          case rel => exact ⟨b, a, s * 2, _, _, rfl, rfl, by simp, fun e => hab e.symm, hb, ha, by omega, by omega, H2⟩
          case measure => simp [intOf]; omega
        · have q1 : ¬ (s : Int) < (xs.length : Int) := by omega
          go_wp2
          go_ret
          refine ⟨⟨_, rfl, .inr ⟨a, ?_, ha, ?_, ?_⟩⟩, H.out.2.2.2.2.2.1⟩
          · rw [srt_len]; rfl
          · rw [← H.out.2.2.2.2.1, srt_end f (by rw [H.out.2.2.1]; exact hsl)]; exact H.out.1
          · rw [srt_len]; unfold maxLen; omega
    · skip
      obtain ⟨W2, hW2⟩ : ∃ u, ((w.alloc (.cells (flatN (List.replicate xs.length (0 : Int))).toArray 3)).alloc (.cells (flatN (List.replicate xs.length (0 : Int))).toArray 3)).drew = u := ⟨_, rfl⟩
      have r1 : NtRow W2 w.heap.size (List.replicate xs.length (0 : Int)) := by rw [← hW2]; exact (Below.heap_alloc (w.alloc (.cells (flatN (List.replicate xs.length (0 : Int))).toArray 3)) _ w.heap.size (by simp)).trans (heap_alloc_new w _)
      have r2 : NtRow W2 (w.heap.size + 1) (List.replicate xs.length (0 : Int)) := by
        rw [← hW2]
        have := heap_alloc_new (w.alloc (.cells (flatN (List.replicate xs.length (0 : Int))).toArray 3)) (.cells (flatN (List.replicate xs.length (0 : Int))).toArray 3)
        rw [World.size_alloc] at this
        exact this
      have hB2 : Below w.heap.size w W2 := by rw [← hW2]; exact (((Below.refl _ w).alloc (Nat.le_refl _) _).alloc (by simp) _).drew
      rw [hW2]
      clear hW2 mk
      obtain ⟨W3, hcp, r3, hg3⟩ := ntcopy_new (g := w.heap.size + 1) (w := w) hB2 r2 (by simp) HA.out (by omega) (by omega)
      have r4 : NtRow W3 (w.heap.size) (List.replicate xs.length (0 : Int)) := r1.keep (hg3.block _ r1.lt (by simp))
      have hB3 : Below w.heap.size w W3 := hB2.grown hg3 hB2.size (fun k e => by cases e; omega)
      have R3 := hide r3
      have R4 := hide r4
      have HB3 := hide hB3
      clear r1 r2 r3 r4 hB2 hB3 hg3
      go_wp2
      go_loopw [5, 6, 7] (fun fv iv sv wr => ∃ (a b s : Nat) (ys zs : List Int), fv = .slice (some ⟨a, 0, none⟩) xs.length xs.length ∧ iv = .slice (some ⟨b, 0, none⟩) xs.length xs.length ∧ sv = .int .i64 s ∧ a ≠ b ∧ w.heap.size ≤ a ∧ w.heap.size ≤ b ∧ 0 < s ∧ s ≤ 17592186044416 ∧ Hid (NtRow wr a ys ∧ NtRow wr b zs ∧ ys.length = xs.length ∧ zs.length = xs.length ∧ srt f s ys = srt f 1 xs ∧ Below w.heap.size w wr ∧ ∀ x ∈ ys, x ∈ xs)) (fun _ _ sv _ => xs.length - (intOf sv).toNat)
      case atStart => exact ⟨w.heap.size + 1, w.heap.size, 1, xs, _, rfl, rfl, rfl, by omega, by omega, by omega, by omega, by omega, hide ⟨R3.out, R4.out, rfl, by simp, rfl, HB3.out, fun _ h => h⟩⟩
      case round =>
        obtain ⟨a, b, s, ys, zs, rfl, rfl, rfl, hab, ha, hb, hs0, hs1, H⟩ := hrel
        clear R3 R4 HB3
        by_cases hsl : s < xs.length
        · have q1 : (s : Int) < (xs.length : Int) := by omega
          have c := ntruns_any (w := wr) (gi := b) (ci := xs.length) (s := s) (xs := ys) (ws := zs) (I := I) (f := f) hs0 (by omega) (by rw [H.out.2.2.1]; omega) H.out.2.1 (by rw [H.out.2.2.1, H.out.2.2.2.1]) (by rw [H.out.2.2.1]; exact Nat.le_refl _) (by unfold maxLen; omega) (H.out.1.rd hab (Nat.le_refl _) (by rw [H.out.2.2.1]; unfold maxLen; omega)) HCC.out (fun x hx => HXM.out x (H.out.2.2.2.2.2.2 x hx)) (HI.out _ _ HIw.out H.out.2.2.2.2.2.1) (fun U U' h kk => HI.out U U' h (kk.below H.out.2.2.2.2.2.1.size (fun k hk e => by omega)))
          rw [H.out.2.2.1] at c
          have HC := hide c
          clear c
          go_wp2_with fail
          refine HC.out.mono ?_
          rintro e w1 ⟨rfl, k1, k2⟩
          have H2 : Hid (NtRow w1 b (runs f s ys) ∧ NtRow w1 a ys ∧ (runs f s ys).length = xs.length ∧ ys.length = xs.length ∧ srt f (s * 2) (runs f s ys) = srt f 1 xs ∧ Below w.heap.size w w1 ∧ ∀ x ∈ runs f s ys, x ∈ xs) := hide ⟨k1, H.out.1.keep (k2.block _ H.out.1.lt hab), by rw [runs_len, H.out.2.2.1], H.out.2.2.1, by rw [← H.out.2.2.2.2.1, srt_step f (s := s) (by rw [H.out.2.2.1]; exact hsl) hs0], H.out.2.2.2.2.2.1.trans (k2.below (B := w.heap.size) H.out.2.2.2.2.2.1.size (fun k hk e => by omega)), fun x hx => H.out.2.2.2.2.2.2 x (mem_runs.1 hx)⟩
          clear k1 k2 HC H
          go_wp2
          go_roundw
          case rel => exact ⟨b, a, s * 2, _, _, rfl, rfl, by simp, fun e => hab e.symm, hb, ha, by omega, by omega, H2⟩
          case measure => simp [intOf]; omega
        · have q1 : ¬ (s : Int) < (xs.length : Int) := by omega
          go_wp2
          go_ret
          refine ⟨⟨_, rfl, .inr ⟨a, ?_, ha, ?_, ?_⟩⟩, H.out.2.2.2.2.2.1⟩
          · rw [srt_len]; rfl
          · rw [← H.out.2.2.2.2.1, srt_end f (by rw [H.out.2.2.1]; exact hsl)]; exact H.out.1
          · rw [srt_len]; unfold maxLen; omega

end Go.Proofs.Ytboikfcmbfaaeaa

namespace Go.Proofs.Ytboikfcmbfaaeaa
set_option linter.unusedVariables false

theorem mrg_perm {α : Type} (f : α → α → Int) (xs ys : List α) : (mrg f xs ys).Perm (xs ++ ys) := by
  fun_induction mrg f xs ys with
  | case1 ys => exact List.Perm.refl _
  | case2 x xs => simp
  | case3 x xs y ys h ih =>
    refine (List.Perm.cons y ih).trans ?_
    exact (List.perm_middle (a := y) (l₁ := x :: xs) (l₂ := ys)).symm
  | case4 x xs y ys h ih => exact List.Perm.cons x ih
theorem two_take {α : Type} (xs : List α) (s : Nat) : xs.take s ++ ((xs.drop s).take s ++ xs.drop (2 * s)) = xs := by
  rw [show 2 * s = s + s by omega, ← List.drop_drop, List.take_append_drop, List.take_append_drop]
theorem runs_perm {α : Type} (f : α → α → Int) (s : Nat) (xs : List α) : (runs f s xs).Perm xs := by
  fun_induction runs f s xs with
  | case1 xs h => exact List.Perm.refl _
  | case2 xs h ih =>
    have e := two_take xs s
    conv => rhs; rw [← e, ← List.append_assoc]
    exact (mrg_perm f _ _).append ih
theorem srt_perm {α : Type} (f : α → α → Int) (s : Nat) (xs : List α) : (srt f s xs).Perm xs := by
  fun_induction srt f s xs with
  | case1 s xs h ih => exact ih.trans (runs_perm f s xs)
  | case2 s xs h => exact List.Perm.refl _

/-- what a merge leans on -/
def Apt {α : Type} (f : α → α → Int) (R : α → α → Prop) (x y : α) : Prop := (f y x < 0 → R y x) ∧ (¬ f y x < 0 → R x y)
theorem mrg_pw {α : Type} {f : α → α → Int} {R : α → α → Prop} (tr : ∀ a b c, R a b → R b c → R a c) {xs ys : List α} (hx : xs.Pairwise R) (hy : ys.Pairwise R) (hs : ∀ x ∈ xs, ∀ y ∈ ys, Apt f R x y) : (mrg f xs ys).Pairwise R := by
  fun_induction mrg f xs ys with
  | case1 ys => exact hy
  | case2 x xs => exact hx
  | case3 x xs y ys h ih =>
    have h1 : R y x := (hs x (by simp) y (by simp)).1 h
    refine List.pairwise_cons.2 ⟨fun z hz => ?_, ih hx (List.pairwise_cons.1 hy).2 (fun a ha b hb => hs a ha b (List.mem_cons_of_mem _ hb))⟩
    rcases mem_mrg.1 hz with hz | hz
    · rcases List.mem_cons.1 hz with rfl | hz
      · exact h1
      · exact tr _ _ _ h1 ((List.pairwise_cons.1 hx).1 z hz)
    · exact (List.pairwise_cons.1 hy).1 z hz
  | case4 x xs y ys h ih =>
    have h1 : R x y := (hs x (by simp) y (by simp)).2 h
    refine List.pairwise_cons.2 ⟨fun z hz => ?_, ih (List.pairwise_cons.1 hx).2 hy (fun a ha b hb => hs a (List.mem_cons_of_mem _ ha) b hb)⟩
    rcases mem_mrg.1 hz with hz | hz
    · exact (List.pairwise_cons.1 hx).1 z hz
    · rcases List.mem_cons.1 hz with rfl | hz
      · exact h1
      · exact tr _ _ _ h1 ((List.pairwise_cons.1 hy).1 z hz)
/-- runs of s, each in order; apt from run to run -/
inductive Blk {α : Type} (f : α → α → Int) (R : α → α → Prop) (s : Nat) : List α → Prop
  | nil : Blk f R s []
  | run (a b : List α) (ha : a.length ≤ s) (hb : b ≠ [] → a.length = s) (h1 : a.Pairwise R) (h2 : ∀ x ∈ a, ∀ y ∈ b, Apt f R x y) (h3 : Blk f R s b) : Blk f R s (a ++ b)
theorem blk_one {α : Type} {f : α → α → Int} {R : α → α → Prop} {xs : List α} (h : xs.Pairwise (Apt f R)) : Blk f R 1 xs := by
  induction xs with
  | nil => exact .nil
  | cons x xs ih =>
    have := List.pairwise_cons.1 h
    exact Blk.run [x] xs (by simp) (by simp) (by simp) (fun a ha y hy => by rw [List.mem_singleton.1 ha]; exact this.1 y hy) (ih this.2)
theorem Blk.cut {α : Type} {f : α → α → Int} {R : α → α → Prop} {s : Nat} {xs : List α} (hs : 0 < s) (h : Blk f R s xs) : (xs.take s).Pairwise R ∧ (∀ x ∈ xs.take s, ∀ y ∈ xs.drop s, Apt f R x y) ∧ Blk f R s (xs.drop s) := by
  cases h with
  | nil => simp; exact .nil
  | run a b ha hb h1 h2 h3 =>
    by_cases hbn : b = []
    · subst hbn
      rw [List.append_nil, List.take_of_length_le ha, List.drop_eq_nil_of_le ha]
      exact ⟨h1, fun x _ y hy => (by cases hy), .nil⟩
    · have e := hb hbn
      rw [← e, List.take_left, List.drop_left]
      exact ⟨h1, h2, by rw [e]; exact h3⟩
theorem runs_blk {α : Type} {f : α → α → Int} {R : α → α → Prop} (tr : ∀ a b c, R a b → R b c → R a c) {s : Nat} (hs : 0 < s) {xs : List α} (h : Blk f R s xs) : Blk f R (s * 2) (runs f s xs) := by
  fun_induction runs f s xs with
  | case1 xs h0 =>
    rcases h0 with rfl | rfl
    · exact .nil
    · omega
  | case2 xs h0 ih =>
    obtain ⟨p1, p2, p3⟩ := h.cut hs
    obtain ⟨q1, q2, q3⟩ := p3.cut hs
    rw [List.drop_drop, ← show 2 * s = s + s by omega] at q2 q3
    refine Blk.run _ _ ?_ ?_ (mrg_pw tr p1 q1 (fun x hx y hy => p2 x hx y (List.mem_of_mem_take hy))) ?_ (ih q3)
    · rw [mrg_len, List.length_take, List.length_take]; omega
    · intro hne
      have hl : (runs f s (xs.drop (2 * s))).length ≠ 0 := fun e => hne (List.eq_nil_of_length_eq_zero e)
      rw [runs_len, List.length_drop] at hl
      rw [mrg_len, List.length_take, List.length_take, List.length_drop]
      omega
    · intro x hx y hy
      rw [mem_runs] at hy
      rcases mem_mrg.1 hx with hx | hx
      · exact p2 x hx y (by rw [show 2 * s = s + s by omega, ← List.drop_drop] at hy; exact List.mem_of_mem_drop hy)
      · exact q2 x hx y hy
theorem srt_blk {α : Type} {f : α → α → Int} {R : α → α → Prop} (tr : ∀ a b c, R a b → R b c → R a c) {s : Nat} (hs : 0 < s) {xs : List α} (h : Blk f R s xs) : (srt f s xs).Pairwise R := by
  fun_induction srt f s xs with
  | case1 s xs h0 ih => exact ih (by omega) (runs_blk tr hs h)
  | case2 s xs h0 =>
    have := (h.cut hs).1
    rwa [List.take_of_length_le (by omega)] at this
/-- Sort: pairwise in order -/
theorem srt_pw {α : Type} {f : α → α → Int} {R : α → α → Prop} (tr : ∀ a b c, R a b → R b c → R a c) {xs : List α} (h : xs.Pairwise (Apt f R)) : (srt f 1 xs).Pairwise R := srt_blk tr (by omega) (blk_one h)

end Go.Proofs.Ytboikfcmbfaaeaa

namespace Go.Proofs.Ytboikfcmbfaaeaa
open Go.RowKit Go.Shelf
set_option linter.unusedVariables false

def upN (n : Nat) : List Int := (List.range n).map fun (k : Nat) => (k : Int)
theorem upN_len (n : Nat) : (upN n).length = n := by simp [upN]
theorem upN_get {n k : Nat} (h : k < n) : (upN n)[k]'(by rw [upN_len]; exact h) = (k : Int) := by simp [upN]
theorem upN_mem {n : Nat} {x : Int} (h : x ∈ upN n) : 0 ≤ x ∧ x < (n : Int) := by
  simp only [upN, List.mem_map, List.mem_range] at h
  obtain ⟨k, hk, rfl⟩ := h
  omega

set_option maxRecDepth 100000 in
set_option maxHeartbeats 4000000 in
theorem upTo_any {w : World} {n : Nat} (hn : n ≤ 8796093022208) : Calls Try.prog 36 #[.int .i64 n] w fun e w' => (∃ g, e = .returned (.slice (some ⟨g, 0, none⟩) n n) ∧ w.heap.size ≤ g ∧ NtRow w' g (upN n)) ∧ Below w.heap.size w w' := by
  have mk := mk_ints hn
  have r0 : ∀ u : World, NtRow (u.alloc (.cells (flatN (List.replicate n 0)).toArray 3)) u.heap.size (List.replicate n 0) := fun u => heap_alloc_new u _
  have k0 : ∀ u : World, Below u.heap.size u (u.alloc (.cells (flatN (List.replicate n 0)).toArray 3)) := fun u => (Below.refl _ u).alloc (Nat.le_refl _) _
  have R0 := hide (r0 w)
  have K0 := hide (k0 w)
  clear r0 k0
  go_enter Try.func36, Try.ntmps36
  go_wp2
  obtain ⟨W0, hW0⟩ : ∃ u, w.alloc (.cells (flatN (List.replicate n 0)).toArray 3) = u := ⟨_, rfl⟩
  rw [hW0] at R0 K0 ⊢
  clear hW0 mk
  go_loopw [9] (fun kv wr => ∃ (k : Nat) (zs : List Int), kv = .int .i64 k ∧ k ≤ n ∧ zs.length = n ∧ Hid (NtRow wr w.heap.size zs) ∧ Hid (zs.take k = (upN n).take k) ∧ Hid (Below w.heap.size w wr)) (fun kv _ => n - (intOf kv).toNat)
  case atStart => exact ⟨0, _, rfl, by omega, by simp, R0, hide (by simp), K0⟩
  case round =>
    obtain ⟨k, zs, rfl, hk, hz, hR, hT, hB⟩ := hrel
    by_cases hkn : k < n
    · have q1 : (k : Int) < (n : Int) := by omega
      have fz := hR.out.frozen k
      have cz := hR.out.cell (i := k) (by omega)
      have HS := hide (hR.out.set (i := k) (by omega) (k : Int))
      have HB2 := hide (hB.out.setCell (p := ⟨w.heap.size, k, none⟩) (Nat.le_refl _) (.int .i64 k))
      have HT2 := hide (show (zs.set k (k : Int)).take (k + 1) = (upN n).take (k + 1) by
        rw [take_set_next (by omega) hT.out, List.take_succ_eq_append_getElem (by rw [upN_len]; exact hkn), upN_get hkn])
      clear hR hB hT
      go_wp2
      go_roundw
      case rel => exact ⟨k + 1, _, by simp, by omega, by rw [List.length_set]; exact hz, HS, HT2, HB2⟩
      case measure => simp [intOf]; omega
    · have q1 : ¬ (k : Int) < (n : Int) := by omega
      obtain rfl : k = n := by omega
      go_wp2
      go_ret
      refine ⟨⟨w.heap.size, rfl, Nat.le_refl _, ?_⟩, hB.out⟩
      have := hT.out
      rw [List.take_of_length_le (by omega), List.take_of_length_le (by rw [upN_len]; exact Nat.le_refl _)] at this
      rw [← this]
      exact hR.out

/-- the order of numbers by the elements that they number -/
def byNo (f : It → It → Int) (l : List It) (a b : Int) : Int := f (l[a.toNat]?.getD (0, 0)) (l[b.toNat]?.getD (0, 0))

set_option maxRecDepth 100000 in
set_option maxHeartbeats 4000000 in
theorem byNo_is {w : World} {va cv : Value} {l : List It} {f : It → It → Int} {I : World → Prop} {Bl Bc : Nat} (bL : Boxed w Bl 22 va) (bC : Boxed w Bc 30 cv) (ha : ItRd (fun _ => True) w va l) (hl : l.length ≤ 8796093022208) (hc : CmpIs I cv f) (hI : ∀ W, Below w.heap.size w W → I W) :
    CmpIsN (fun W => Below w.heap.size w W) (.func (.func 34) #[] #[.pointer (some ⟨Bc, 0, none⟩), .pointer (some ⟨Bl, 0, none⟩)]) l.length (byNo f l) := by
  refine ⟨_, _, rfl, enters_of Try.func34 (by kernel_rfl) rfl, ?_⟩
  intro W a b hB a0 a1 b0 b1
  obtain ⟨cg, cl, rfl, eg, hcall⟩ := hc.val
  obtain ⟨ao, ca, rfl, hac, ham, hacl⟩ := ha
  unfold maxLen at ham
  obtain ⟨i, rfl⟩ : ∃ i : Nat, (i : Int) = a := ⟨a.toNat, by omega⟩
  obtain ⟨j, rfl⟩ : ∃ j : Nat, (j : Int) = b := ⟨b.toNat, by omega⟩
  have hi : i < l.length := by omega
  have hj : j < l.length := by omega
  obtain ⟨g, o, rfl, _, hg, hin⟩ := hacl (by omega)
  have ef : byNo f l (i : Int) (j : Int) = f l[i] l[j] := by simp [byNo, hi, hj]
  rw [ef]
  obtain ⟨⟨x1, x2⟩, hx⟩ : ∃ x, l[i] = x := ⟨_, rfl⟩
  obtain ⟨⟨y1, y2⟩, hy⟩ : ∃ y, l[j] = y := ⟨_, rfl⟩
  have qi := hin i hi
  have qj := hin j hj
  rw [hx] at qi ⊢
  rw [hy] at qj ⊢
  have CF : Hid (∀ U, Below W.heap.size W U → U.cell? ⟨Bc, 0, none⟩ = some (.func (.func cg) #[] cl) ∧ U.cell? ⟨Bl, 0, none⟩ = some (.slice (some ⟨g, o, none⟩) l.length ca) ∧ U.cell? ⟨g, o + i * 2, none⟩ = some (.int .i64 x1) ∧ U.cell? ⟨g, o + i * 2 + 1, none⟩ = some (.int .i64 x2) ∧ U.cell? ⟨g, o + j * 2, none⟩ = some (.int .i64 y1) ∧ U.cell? ⟨g, o + j * 2 + 1, none⟩ = some (.int .i64 y2)) := hide (fun U k => by
    have kk : Below w.heap.size w U := hB.trans (k.mono hB.size)
    exact ⟨(kk.cell (p := ⟨Bc, 0, none⟩) bC.lt).trans bC.cell, (kk.cell (p := ⟨Bl, 0, none⟩) bL.lt).trans bL.cell, (kk.cell (p := ⟨g, _, none⟩) hg).trans qi.1, (kk.cell (p := ⟨g, _, none⟩) hg).trans qi.2, (kk.cell (p := ⟨g, _, none⟩) hg).trans qj.1, (kk.cell (p := ⟨g, _, none⟩) hg).trans qj.2⟩)
  have HC := hide (fun (U : World) (k : Below W.heap.size W U) => hcall U (x1, x2) (y1, y2) (hI U (hB.trans (k.mono hB.size))))
  have q1 : (i : Int) < (l.length : Int) := by omega
  have q2 : (j : Int) < (l.length : Int) := by omega
  have K : Below W.heap.size W W.drew := (Below.refl _ _).drew
  clear hin qi qj hcall hI hacl bL bC hB ef hx hy a0 a1 b0 b1
  show Calls Try.prog 34 #[.int .i64 i, .int .i64 j, .pointer (some ⟨Bc, 0, none⟩), .pointer (some ⟨Bl, 0, none⟩)] W _
  go_enter Try.func34, Try.ntmps34
  go_wp2
  first | go_region_held3 (fun u => u.cell? ⟨Bc, 0, none⟩ = some (.func (.func cg) #[] cl) ∧ u.cell? ⟨Bl, 0, none⟩ = some (.slice (some ⟨g, o, none⟩) l.length ca) ∧ u.cell? ⟨g, o + i * 2, none⟩ = some (.int .i64 x1) ∧ u.cell? ⟨g, o + i * 2 + 1, none⟩ = some (.int .i64 x2) ∧ u.cell? ⟨g, o + j * 2, none⟩ = some (.int .i64 y1) ∧ u.cell? ⟨g, o + j * 2 + 1, none⟩ = some (.int .i64 y2))
    (first | with_reducible exact CF.out _ K | go_keep)
    (first | (go_at_fn cg; (with_reducible refine (HC.out _ K).mono ?_); rintro e w8 ⟨rfl, hb⟩; replace K := K.trans (hb.mono K.size); clear hb)) | fail "region"
  go_wp2
  go_ret
  exact ⟨rfl, K⟩

end Go.Proofs.Ytboikfcmbfaaeaa

namespace Go.Proofs.Ytboikfcmbfaaeaa
open Go.RowKit Go.Shelf
set_option linter.unusedVariables false
set_option linter.unusedSimpArgs false
attribute [local go_sem] Oper.semAt_some

def twS (ns : List Int) (acc : Int) (i : Nat) : Int := if acc < 0 ∨ ns[i]?.getD 0 < acc then ns[i]?.getD 0 else acc
def tw (f : It → It → Int) (l : List It) : Int := (reps (byNo f l) 0 (srt (byNo f l) 1 (upN l.length))).foldl (twS (srt (byNo f l) 1 (upN l.length))) (-1)
def OTI (Bf : Nat) (ns : List Int) (w8 : World) (pre : List (Pl ns.length)) (W : World) : Prop :=
  Boxed W Bf 3 (.int .i64 ((pre.map Subtype.val).foldl (twS ns) (-1))) ∧ BelX (fun k => k = Bf) w8.heap.size w8 W
theorem oti_own {Bf : Nat} {ns : List Int} {w8 : World} (h : Bf < w8.heap.size) : OwnFrom w8.heap.size (OTI Bf ns w8) := by
  rintro pre W W' row ⟨a, b⟩ hg hr
  exact ⟨a.kept hg (fun e => by have := (hr Bf e.symm).1; omega), b.trans (BelX.grown hg b.size (fun r e => .inl (hr r e).1))⟩

set_option maxRecDepth 100000 in
set_option maxHeartbeats 8000000 in
theorem twice_any {w : World} {va cv : Value} {l : List It} {f : It → It → Int} {I : World → Prop} (ha : ItRd (fun _ => True) w va l) (hl : l.length ≤ 8796093022208) (hc : CmpIs I cv f) (hI : ∀ W, Below w.heap.size w W → I W) :
    Calls Try.prog 30 #[va, cv] w fun e w' => e = .returned (.int .i64 (tw f l)) ∧ Below w.heap.size w w' := by
  have haa := ha
  have hcc := hc
  obtain ⟨cg, cl, rfl, eg, hcall⟩ := hc.val
  obtain ⟨ao, ca, rfl, hac, ham, hacl⟩ := ha
  unfold maxLen at ham
  have hfn : ∀ (w : World) f a c, (binOp .eql 30 (.func f a c) .nilFunc).run Try.prog w = .ok (.bool false) w := ofunc_nil itdesc
  obtain ⟨W2, hW2⟩ : ∃ u, (w.alloc (.cells #[.slice ao l.length ca] 22)).alloc (.cells #[.func (.func cg) #[] cl] 30) = u := ⟨_, rfl⟩
  have K2 : Below w.heap.size w W2 := by rw [← hW2]; exact ((Below.refl _ w).alloc (Nat.le_refl _) _).alloc (by simp) _
  have bL : Boxed W2 w.heap.size 22 (.slice ao l.length ca) := by rw [← hW2]; exact (Boxed.new _ _ _).alloc _
  have bC : Boxed W2 (w.heap.size + 1) 30 (.func (.func cg) #[] cl) := by
    rw [← hW2]
    have := Boxed.new (w.alloc (.cells #[.slice ao l.length ca] 22)) 30 (.func (.func cg) #[] cl)
    simpa using this
  have HN := hide (byNo_is (w := W2) bL bC (haa.below K2) hl hcc (fun W k => hI W (K2.trans (k.mono K2.size))))
  have cL := bL.cell
  have cC := bC.cell
  have BL := hide bL
  have HK2 := hide K2
  obtain ⟨ns, hns⟩ : ∃ ns, srt (byNo f l) 1 (upN l.length) = ns := ⟨_, rfl⟩
  have hnl : Hid (ns.length = l.length) := hide (by rw [← hns, srt_len, upN_len])
  have HNM := hide (show ∀ x ∈ ns, 0 ≤ x ∧ x < (l.length : Int) from fun x hx => upN_mem (mem_srt.1 (by rw [hns]; exact hx)))
  have htw : tw f l = (reps (byNo f l) 0 ns).foldl (twS ns) (-1) := by rw [tw, hns]
  rw [htw]
  have HNS := hide hns
  clear haa hcc hcall hacl hc K2 bL bC hI hns htw
  refine (callsIn_wide (n := 4)).1 ?_
  refine callsIn_of_wp_marks Try.func30 rfl trivial ?_ rfl
  simp only [Try.ntmps30, List.size_toArray, List.length_cons, List.length_nil, Nat.reduceAdd, Nat.reduceSub, Array.replicate_succ, Array.replicate_zero, List.push_toArray, List.append_toArray, List.nil_append, List.cons_append]
  refine wpIn_wide.2 ?_
  go_wp2_with fail
  refine (upTo_any hl).mono ?_
  rintro e w3 ⟨⟨g, rfl, hg, hr⟩, k3⟩
  have c4 := ntsort_any (w := w3) (xs := upN l.length) (by rw [upN_len]; exact hl) (hr.rd (G := fun _ => True) trivial (c := l.length) (by rw [upN_len]; exact Nat.le_refl _) (by unfold maxLen; omega)) HN.out (fun x hx => upN_mem hx) k3 (fun W W' h k => h.trans (k.mono k3.size))
  rw [HNS.out, upN_len] at c4
  have C4 := hide c4
  have K3 := hide k3
  clear c4 k3 hr cL cC hW2
  go_wp2_with fail
  refine C4.out.mono ?_
  rintro e w4 ⟨⟨v, rfl, ho⟩, k4⟩
  obtain ⟨no, nc, rfl, hn1, hn2, hn3⟩ := ho.rd
  unfold maxLen at hn2
  have RN : Hid (NtRd (fun g => g < w4.heap.size) w4 (.slice no ns.length nc) ns) := hide (ho.rd.mono (fun _ h _ => h))
  have K4 : Hid (Below W2.heap.size W2 w4) := hide (K3.out.trans (k4.mono K3.out.size))
  clear ho hn3 k4 C4 K3
  obtain ⟨W5, hW5⟩ : ∃ u, (w4.alloc (.cells #[.slice no ns.length nc] 63)).alloc (.cells #[.int .i64 (-1)] 3) = u := ⟨_, rfl⟩
  have K5 : Hid (Below w4.heap.size w4 W5) := by rw [← hW5]; exact hide (((Below.refl _ w4).alloc (Nat.le_refl _) _).alloc (by simp) _)
  have bN : Boxed W5 w4.heap.size 63 (.slice no ns.length nc) := by rw [← hW5]; exact (Boxed.new _ _ _).alloc _
  have bF : Boxed W5 (w4.heap.size + 1) 3 (.int .i64 (-1)) := by
    rw [← hW5]
    have := Boxed.new (w4.alloc (.cells #[.slice no ns.length nc] 63)) 3 (.int .i64 (-1))
    simpa using this
  have cN := bN.cell
  go_wp2_with fail
  refine ntrep_box.mono ?_
  rintro e w8 ⟨rfl, b1, b2, k8⟩
  have bN8 := k8.block _ bN.lt
  have h58 : W5.heap.size + 1 < w8.heap.size := b2.lt
  have h45 : w4.heap.size + 1 < W5.heap.size := bF.lt
  have K8 : Hid (Below w4.heap.size w4 w8) := hide (K5.out.trans (k8.mono K5.out.size))
  have BN : Hid (Boxed w8 w4.heap.size 63 (.slice no ns.length nc)) := hide (bN8.trans bN)
  have BF : Hid (Boxed w8 (w4.heap.size + 1) 3 (.int .i64 (-1))) := hide ((k8.block _ bF.lt).trans bF)
  have hseq := ntrep_stops (n := 3) (X := fun k => k = w4.heap.size + 1) (n₀ := w8.heap.size) (by omega) b1 b2 ⟨by omega, by omega⟩ ⟨by omega, by omega⟩
    (((RN.out.below K8.out).mono (H := fun g => g < w8.heap.size ∧ ¬ g = w4.heap.size + 1) (fun g hg h => ⟨hg, fun e => by omega⟩))) HN.out (K4.out.trans (K8.out.mono K4.out.size)) (fun W W' h k => h.trans (k.below (by have := K4.out.size; omega) (fun k hk e => by have := K4.out.size; omega))) (Nat.le_refl _) (by have := hnl.out; omega) HNM.out
  have HSEQ := hide hseq
  clear hseq bN bF cN k8 bN8 b1 b2 K5 hW5
  go_wp2_with fail
  refine (wpIn_wide (n := 4)).1 ?_
  refine' wpIn_rangeFunc_ownG rfl (by omega) (gf := 40) (lb := #[.pointer (some ⟨W5.heap.size, 0, none⟩), .pointer (some ⟨W5.heap.size + 1, 0, none⟩)]) (by simp [go_sem]) trivial (enters_of Try.func40 (by kernel_rfl) rfl)
    HSEQ.out BelX.trans (fun W l o o' hl _ _ _ => belx_putObj o' hl) (Below.refl _ _) (fun _ => rfl)
    (fun pre W' => OTI (w4.heap.size + 1) ns w8 pre W') (fun _ _ _ => False) (oti_own (by omega)) (fun _ _ _ _ _ hs _ _ => hs) ⟨BF.out, BelX.refl _ _ _⟩ _ _ _ _ _
  case refine'_2 =>
    intro l x W K hK
    gi_wp2
    exact hK
  case refine'_3 =>
    rintro l' pre x W' ⟨r1, r2⟩ hlt
    have bN' : Boxed W' w4.heap.size 63 (.slice no ns.length nc) := r2.boxed BN.out (by omega) (by omega)
    have cN := bN'.cell
    obtain ⟨acc, hacc⟩ : ∃ a, (pre.map Subtype.val).foldl (twS ns) (-1) = a := ⟨_, rfl⟩
    have hnx : ((pre ++ [x]).map Subtype.val).foldl (twS ns) (-1) = twS ns acc x.1 := by rw [List.map_append, List.foldl_append, hacc]; rfl
    rw [hacc] at r1
    have HNX := hide hnx
    have c1 := r1.cell
    have f1 := r1.frozen
    have R1 := hide r1
    have R2 := hide r2
    obtain ⟨x, hx⟩ := x
    obtain ⟨no', nc', e1, _, _, rd⟩ := (RN.out.below K8.out)
    injection e1 with e1 e2 e3
    subst e1 e3
    obtain ⟨gn, on, rfl, hg4, hgl, hin⟩ := rd (by omega)
    obtain ⟨y, hy⟩ : ∃ y, ns[x] = y := ⟨_, rfl⟩
    have cy := hin x hx
    rw [hy] at cy
    have hgf : gn ≠ w4.heap.size + 1 := by omega
    have cy' := (r2.cell (p := ⟨gn, _, none⟩) hgl hgf).trans cy
    have q1 : (x : Int) < (ns.length : Int) := by omega
    have hty : ns[x]?.getD 0 = y := by simp [hx, hy]
    have HTY := hide hty
    clear r1 r2 hacc hnx rd hin cy hlt e2 bN' hty hy
    have HDR : Hid (BelX (fun k => k = w4.heap.size + 1) w8.heap.size W' W'.drew) := hide (BelX.of ((Below.refl W'.heap.size W').drew) R2.out.size)
    have HBD : Hid (Boxed W'.drew (w4.heap.size + 1) 3 (.int .i64 acc)) := R1
    by_cases ha0 : acc < 0
    · have d1 : decide (acc < 0) = true := by simpa using ha0
      have HT : Hid (twS ns acc x = y) := hide (by rw [twS, HTY.out, if_pos (.inl ha0)])
      gi_wp2
      refine wpHeld.region (C := fun u => u = W'.drew) (D := fun _ => false) (by kernel_rfl) ?_
      refine wpHeld.tk (i := 0) (d := some 21) (v := .int .i64 acc) (by kernel_rfl) rfl (by kernel_rfl) (by kernel_rfl) (by kernel_rfl) (by kernel_rfl) rfl (fun _ _ _ h => h) ⟨Or.inl ⟨by rfl, ?_⟩, fun _ => rfl⟩ rfl ?_
      · rintro _ rfl
        go_simp
      simp only [Act.put, List.setIfInBounds_toArray, List.set_cons_zero, List.set_cons_succ]
      refine wpHeld.tk (i := 1) (d := some 22) (v := .bool true) (by kernel_rfl) rfl (by kernel_rfl) (by kernel_rfl) (by kernel_rfl) (by kernel_rfl) rfl (fun _ _ _ h => h) ⟨Or.inl ⟨by rfl, ?_⟩, fun _ => rfl⟩ rfl ?_
      · rintro _ rfl
        go_simp
      simp only [Act.put, List.setIfInBounds_toArray, List.set_cons_zero, List.set_cons_succ]
      refine wpHeld.tk (i := 2) (d := some 23) (v := .bool true) (by kernel_rfl) rfl (by kernel_rfl) (by kernel_rfl) (by kernel_rfl) (by kernel_rfl) rfl (fun _ _ _ h => h) ⟨Or.inl ⟨by rfl, ?_⟩, fun _ => rfl⟩ rfl ?_
      · rintro _ rfl
        go_simp
      simp only [Act.put, List.setIfInBounds_toArray, List.set_cons_zero, List.set_cons_succ]
      refine wpHeld.tk (i := 3) (d := some 24) (v := undef) (by kernel_rfl) rfl (by kernel_rfl) (by kernel_rfl) (by kernel_rfl) (by kernel_rfl) rfl (fun _ _ _ h => h) ⟨Or.inr ⟨by rfl, rfl⟩, fun _ => rfl⟩ rfl ?_
      simp only [Act.put, List.setIfInBounds_toArray, List.set_cons_zero, List.set_cons_succ]
      refine wpHeld.tk (i := 4) (d := some 25) (v := undef) (by kernel_rfl) rfl (by kernel_rfl) (by kernel_rfl) (by kernel_rfl) (by kernel_rfl) rfl (fun _ _ _ h => h) ⟨Or.inr ⟨by rfl, rfl⟩, fun _ => rfl⟩ rfl ?_
      simp only [Act.put, List.setIfInBounds_toArray, List.set_cons_zero, List.set_cons_succ]
      refine wpHeld.tk (i := 5) (d := some 26) (v := undef) (by kernel_rfl) rfl (by kernel_rfl) (by kernel_rfl) (by kernel_rfl) (by kernel_rfl) rfl (fun _ _ _ h => h) ⟨Or.inr ⟨by rfl, rfl⟩, fun _ => rfl⟩ rfl ?_
      simp only [Act.put, List.setIfInBounds_toArray, List.set_cons_zero, List.set_cons_succ]
      refine wpHeld.tk (i := 6) (d := some 27) (v := undef) (by kernel_rfl) rfl (by kernel_rfl) (by kernel_rfl) (by kernel_rfl) (by kernel_rfl) rfl (fun _ _ _ h => h) ⟨Or.inr ⟨by rfl, rfl⟩, fun _ => rfl⟩ rfl ?_
      simp only [Act.put, List.setIfInBounds_toArray, List.set_cons_zero, List.set_cons_succ]
      refine wpHeld.tk (i := 7) (d := some 28) (v := undef) (by kernel_rfl) rfl (by kernel_rfl) (by kernel_rfl) (by kernel_rfl) (by kernel_rfl) rfl (fun _ _ _ h => h) ⟨Or.inr ⟨by rfl, rfl⟩, fun _ => rfl⟩ rfl ?_
      simp only [Act.put, List.setIfInBounds_toArray, List.set_cons_zero, List.set_cons_succ]
      refine wpHeld.tk (i := 8) (d := some 29) (v := undef) (by kernel_rfl) rfl (by kernel_rfl) (by kernel_rfl) (by kernel_rfl) (by kernel_rfl) rfl (fun _ _ _ h => h) ⟨Or.inr ⟨by rfl, rfl⟩, fun _ => rfl⟩ rfl ?_
      simp only [Act.put, List.setIfInBounds_toArray, List.set_cons_zero, List.set_cons_succ]
      refine wpHeld.tk (i := 9) (d := some 30) (v := .bool true) (by kernel_rfl) rfl (by kernel_rfl) (by kernel_rfl) (by kernel_rfl) (by kernel_rfl) rfl (fun _ _ _ h => h) ⟨Or.inl ⟨by rfl, ?_⟩, fun _ => rfl⟩ rfl ?_
      · rintro _ rfl
        go_simp
      simp only [Act.put, List.setIfInBounds_toArray, List.set_cons_zero, List.set_cons_succ]
      refine wpHeld.done (by kernel_rfl) ?_ _
      gi_wp2
      exact ⟨((KeepsOthers.drew W').trans (KeepsOthers.setCell _ _ _)).from _, HDR.out.trans (belx_set _ _ rfl), by rw [HNX.out, HT.out]; exact HBD.out.set _, R2.out.trans (HDR.out.trans (belx_set _ _ rfl))⟩
    · have d1 : decide (acc < 0) = false := by simpa using ha0
      by_cases hya : y < acc
      · have d2 : decide (y < acc) = true := by simpa using hya
        have HT : Hid (twS ns acc x = y) := hide (by rw [twS, HTY.out, if_pos (.inr hya)])
        gi_wp2
        refine wpHeld.region (C := fun u => u = W'.drew) (D := fun _ => false) (by kernel_rfl) ?_
        refine wpHeld.tk (i := 0) (d := some 21) (v := .int .i64 acc) (by kernel_rfl) rfl (by kernel_rfl) (by kernel_rfl) (by kernel_rfl) (by kernel_rfl) rfl (fun _ _ _ h => h) ⟨Or.inl ⟨by rfl, ?_⟩, fun _ => rfl⟩ rfl ?_
        · rintro _ rfl
          go_simp
        simp only [Act.put, List.setIfInBounds_toArray, List.set_cons_zero, List.set_cons_succ]
        refine wpHeld.tk (i := 1) (d := some 22) (v := .bool false) (by kernel_rfl) rfl (by kernel_rfl) (by kernel_rfl) (by kernel_rfl) (by kernel_rfl) rfl (fun _ _ _ h => h) ⟨Or.inl ⟨by rfl, ?_⟩, fun _ => rfl⟩ rfl ?_
        · rintro _ rfl
          go_simp
        simp only [Act.put, List.setIfInBounds_toArray, List.set_cons_zero, List.set_cons_succ]
        refine wpHeld.tk (i := 2) (d := some 23) (v := .bool false) (by kernel_rfl) rfl (by kernel_rfl) (by kernel_rfl) (by kernel_rfl) (by kernel_rfl) rfl (fun _ _ _ h => h) ⟨Or.inl ⟨by rfl, ?_⟩, fun _ => rfl⟩ rfl ?_
        · rintro _ rfl
          go_simp
        simp only [Act.put, List.setIfInBounds_toArray, List.set_cons_zero, List.set_cons_succ]
        refine wpHeld.tk (i := 3) (d := some 24) (v := .slice (some ⟨gn, on, none⟩) ns.length nc) (by kernel_rfl) rfl (by kernel_rfl) (by kernel_rfl) (by kernel_rfl) (by kernel_rfl) rfl (fun _ _ _ h => h) ⟨Or.inl ⟨by rfl, ?_⟩, fun _ => rfl⟩ rfl ?_
        · rintro _ rfl
          go_simp
        simp only [Act.put, List.setIfInBounds_toArray, List.set_cons_zero, List.set_cons_succ]
        refine wpHeld.tk (i := 4) (d := some 25) (v := .int .i64 x) (by kernel_rfl) rfl (by kernel_rfl) (by kernel_rfl) (by kernel_rfl) (by kernel_rfl) rfl (fun _ _ _ h => h) ⟨Or.inl ⟨by rfl, ?_⟩, fun _ => rfl⟩ rfl ?_
        · rintro _ rfl
          go_simp
        simp only [Act.put, List.setIfInBounds_toArray, List.set_cons_zero, List.set_cons_succ]
        refine wpHeld.tk (i := 5) (d := some 26) (v := .pointer (some ⟨gn, on + x, none⟩)) (by kernel_rfl) rfl (by kernel_rfl) (by kernel_rfl) (by kernel_rfl) (by kernel_rfl) rfl (fun _ _ _ h => h) ⟨Or.inl ⟨by rfl, ?_⟩, fun _ => rfl⟩ rfl ?_
        · rintro _ rfl
          go_simp
        simp only [Act.put, List.setIfInBounds_toArray, List.set_cons_zero, List.set_cons_succ]
        refine wpHeld.tk (i := 6) (d := some 27) (v := .int .i64 y) (by kernel_rfl) rfl (by kernel_rfl) (by kernel_rfl) (by kernel_rfl) (by kernel_rfl) rfl (fun _ _ _ h => h) ⟨Or.inl ⟨by rfl, ?_⟩, fun _ => rfl⟩ rfl ?_
        · rintro _ rfl
          go_simp
        simp only [Act.put, List.setIfInBounds_toArray, List.set_cons_zero, List.set_cons_succ]
        refine wpHeld.tk (i := 7) (d := some 28) (v := .int .i64 acc) (by kernel_rfl) rfl (by kernel_rfl) (by kernel_rfl) (by kernel_rfl) (by kernel_rfl) rfl (fun _ _ _ h => h) ⟨Or.inl ⟨by rfl, ?_⟩, fun _ => rfl⟩ rfl ?_
        · rintro _ rfl
          go_simp
        simp only [Act.put, List.setIfInBounds_toArray, List.set_cons_zero, List.set_cons_succ]
        refine wpHeld.tk (i := 8) (d := some 29) (v := .bool true) (by kernel_rfl) rfl (by kernel_rfl) (by kernel_rfl) (by kernel_rfl) (by kernel_rfl) rfl (fun _ _ _ h => h) ⟨Or.inl ⟨by rfl, ?_⟩, fun _ => rfl⟩ rfl ?_
        · rintro _ rfl
          go_simp
        simp only [Act.put, List.setIfInBounds_toArray, List.set_cons_zero, List.set_cons_succ]
        refine wpHeld.tk (i := 9) (d := some 30) (v := .bool true) (by kernel_rfl) rfl (by kernel_rfl) (by kernel_rfl) (by kernel_rfl) (by kernel_rfl) rfl (fun _ _ _ h => h) ⟨Or.inl ⟨by rfl, ?_⟩, fun _ => rfl⟩ rfl ?_
        · rintro _ rfl
          go_simp
        simp only [Act.put, List.setIfInBounds_toArray, List.set_cons_zero, List.set_cons_succ]
        refine wpHeld.done (by kernel_rfl) ?_ _
        gi_wp2
        exact ⟨((KeepsOthers.drew W').trans (KeepsOthers.setCell _ _ _)).from _, HDR.out.trans (belx_set _ _ rfl), by rw [HNX.out, HT.out]; exact HBD.out.set _, R2.out.trans (HDR.out.trans (belx_set _ _ rfl))⟩
      · have d2 : decide (y < acc) = false := by simpa using hya
        have HT : Hid (twS ns acc x = acc) := hide (by rw [twS, HTY.out, if_neg (by rintro (h | h); exact ha0 h; exact hya h)])
        gi_wp2
        refine wpHeld.region (C := fun u => u = W'.drew) (D := fun _ => false) (by kernel_rfl) ?_
        refine wpHeld.tk (i := 0) (d := some 21) (v := .int .i64 acc) (by kernel_rfl) rfl (by kernel_rfl) (by kernel_rfl) (by kernel_rfl) (by kernel_rfl) rfl (fun _ _ _ h => h) ⟨Or.inl ⟨by rfl, ?_⟩, fun _ => rfl⟩ rfl ?_
        · rintro _ rfl
          go_simp
        simp only [Act.put, List.setIfInBounds_toArray, List.set_cons_zero, List.set_cons_succ]
        refine wpHeld.tk (i := 1) (d := some 22) (v := .bool false) (by kernel_rfl) rfl (by kernel_rfl) (by kernel_rfl) (by kernel_rfl) (by kernel_rfl) rfl (fun _ _ _ h => h) ⟨Or.inl ⟨by rfl, ?_⟩, fun _ => rfl⟩ rfl ?_
        · rintro _ rfl
          go_simp
        simp only [Act.put, List.setIfInBounds_toArray, List.set_cons_zero, List.set_cons_succ]
        refine wpHeld.tk (i := 2) (d := some 23) (v := .bool false) (by kernel_rfl) rfl (by kernel_rfl) (by kernel_rfl) (by kernel_rfl) (by kernel_rfl) rfl (fun _ _ _ h => h) ⟨Or.inl ⟨by rfl, ?_⟩, fun _ => rfl⟩ rfl ?_
        · rintro _ rfl
          go_simp
        simp only [Act.put, List.setIfInBounds_toArray, List.set_cons_zero, List.set_cons_succ]
        refine wpHeld.tk (i := 3) (d := some 24) (v := .slice (some ⟨gn, on, none⟩) ns.length nc) (by kernel_rfl) rfl (by kernel_rfl) (by kernel_rfl) (by kernel_rfl) (by kernel_rfl) rfl (fun _ _ _ h => h) ⟨Or.inl ⟨by rfl, ?_⟩, fun _ => rfl⟩ rfl ?_
        · rintro _ rfl
          go_simp
        simp only [Act.put, List.setIfInBounds_toArray, List.set_cons_zero, List.set_cons_succ]
        refine wpHeld.tk (i := 4) (d := some 25) (v := .int .i64 x) (by kernel_rfl) rfl (by kernel_rfl) (by kernel_rfl) (by kernel_rfl) (by kernel_rfl) rfl (fun _ _ _ h => h) ⟨Or.inl ⟨by rfl, ?_⟩, fun _ => rfl⟩ rfl ?_
        · rintro _ rfl
          go_simp
        simp only [Act.put, List.setIfInBounds_toArray, List.set_cons_zero, List.set_cons_succ]
        refine wpHeld.tk (i := 5) (d := some 26) (v := .pointer (some ⟨gn, on + x, none⟩)) (by kernel_rfl) rfl (by kernel_rfl) (by kernel_rfl) (by kernel_rfl) (by kernel_rfl) rfl (fun _ _ _ h => h) ⟨Or.inl ⟨by rfl, ?_⟩, fun _ => rfl⟩ rfl ?_
        · rintro _ rfl
          go_simp
        simp only [Act.put, List.setIfInBounds_toArray, List.set_cons_zero, List.set_cons_succ]
        refine wpHeld.tk (i := 6) (d := some 27) (v := .int .i64 y) (by kernel_rfl) rfl (by kernel_rfl) (by kernel_rfl) (by kernel_rfl) (by kernel_rfl) rfl (fun _ _ _ h => h) ⟨Or.inl ⟨by rfl, ?_⟩, fun _ => rfl⟩ rfl ?_
        · rintro _ rfl
          go_simp
        simp only [Act.put, List.setIfInBounds_toArray, List.set_cons_zero, List.set_cons_succ]
        refine wpHeld.tk (i := 7) (d := some 28) (v := .int .i64 acc) (by kernel_rfl) rfl (by kernel_rfl) (by kernel_rfl) (by kernel_rfl) (by kernel_rfl) rfl (fun _ _ _ h => h) ⟨Or.inl ⟨by rfl, ?_⟩, fun _ => rfl⟩ rfl ?_
        · rintro _ rfl
          go_simp
        simp only [Act.put, List.setIfInBounds_toArray, List.set_cons_zero, List.set_cons_succ]
        refine wpHeld.tk (i := 8) (d := some 29) (v := .bool false) (by kernel_rfl) rfl (by kernel_rfl) (by kernel_rfl) (by kernel_rfl) (by kernel_rfl) rfl (fun _ _ _ h => h) ⟨Or.inl ⟨by rfl, ?_⟩, fun _ => rfl⟩ rfl ?_
        · rintro _ rfl
          go_simp
        simp only [Act.put, List.setIfInBounds_toArray, List.set_cons_zero, List.set_cons_succ]
        refine wpHeld.tk (i := 9) (d := some 30) (v := .bool false) (by kernel_rfl) rfl (by kernel_rfl) (by kernel_rfl) (by kernel_rfl) (by kernel_rfl) rfl (fun _ _ _ h => h) ⟨Or.inl ⟨by rfl, ?_⟩, fun _ => rfl⟩ rfl ?_
        · rintro _ rfl
          go_simp
        simp only [Act.put, List.setIfInBounds_toArray, List.set_cons_zero, List.set_cons_succ]
        refine wpHeld.done (by kernel_rfl) ?_ _
        gi_wp2
        exact ⟨(KeepsOthers.drew W').from _, HDR.out, by rw [HNX.out, HT.out]; exact HBD.out, R2.out.trans HDR.out⟩
  case refine'_4 =>
    rintro D ys W' hD hys ⟨r1, r2⟩ hK
    rw [hys] at r1
    have hc := r1.cell
    go_wp2
    refine ⟨by simp, .inl ⟨_, _, rfl, run_takeDeferred hK, ?_⟩⟩
    exact ⟨_, results_tmp rfl _ _ _, rfl, HK2.out.trans (((K4.out.trans (K8.out.mono K4.out.size)).mono HK2.out.size).trans ((r2.trans (belx_putObj _ hD)).below (B := w.heap.size) (by have := HK2.out.size; have := K4.out.size; omega) (fun k hk e => by have := HK2.out.size; have := K4.out.size; omega)))⟩
  case refine'_5 =>
    rintro D c pre W' _ _ h _
    exact h.elim

end Go.Proofs.Ytboikfcmbfaaeaa

namespace Go.Proofs.Ytboikfcmbfaaeaa
set_option linter.unusedVariables false

/-- what an order compares -/
def oK (o : Int) (a : It) : Int := if o = 2 then - oKey o a.1 else oKey o a.1
theorem ocmp_lt {o : Int} {a b : It} : ocmp o a b < 0 ↔ oK o a < oK o b := by
  unfold ocmp oK oSgn
  split <;> split <;> (try split) <;> omega
theorem ocmp_eq {o : Int} {a b : It} : ocmp o a b = 0 ↔ oK o a = oK o b := by
  unfold ocmp oK oSgn
  split <;> split <;> (try split) <;> omega
theorem byF_lt {o : Int} {a b : It} : byF o a b < 0 ↔ oK o a < oK o b := (byF_neg o a b).trans ocmp_lt
theorem byF_eq {o : Int} {a b : It} : byF o a b = 0 ↔ oK o a = oK o b := (byF_zero o a b).trans ocmp_eq

theorem sort_rises (o : Int) (l : List It) : (srt (byF o) 1 l).Pairwise (fun a b => oK o a ≤ oK o b) := by
  refine srt_pw (R := fun a b => oK o a ≤ oK o b) (fun a b c h1 h2 => Int.le_trans h1 h2) ?_
  refine List.Pairwise.imp_of_mem ?_ (List.pairwise_of_forall (R := fun _ _ => True) (fun _ _ => trivial))
  intro a b _ _ _
  exact ⟨fun h => by have := byF_lt.1 h; omega, fun h => by have : ¬ oK o b < oK o a := fun e => h (byF_lt.2 e); omega⟩

theorem bsr_spec {f : It → It → Int} {l : List It} {x : It} (hm : ∀ i j, i < j → j < l.length → f (l[j]?.getD (0, 0)) x < 0 → f (l[i]?.getD (0, 0)) x < 0) {lo hi : Nat} (h : lo ≤ hi) (hl : hi ≤ l.length)
    (h1 : ∀ i, i < lo → f (l[i]?.getD (0, 0)) x < 0) (h2 : ∀ i, hi ≤ i → i < l.length → ¬ f (l[i]?.getD (0, 0)) x < 0) :
    bsr f l x lo hi ≤ l.length ∧ (∀ i, i < bsr f l x lo hi → f (l[i]?.getD (0, 0)) x < 0) ∧ (∀ i, bsr f l x lo hi ≤ i → i < l.length → ¬ f (l[i]?.getD (0, 0)) x < 0) := by
  fun_induction bsr f l x lo hi with
  | case1 lo hi h0 h3 ih =>
    refine ih (by omega) hl (fun i hi' => ?_) h2
    by_cases e : i = lo + (hi - lo) / 2
    · rw [e]; exact h3
    · exact hm i (lo + (hi - lo) / 2) (by omega) (by omega) h3
  | case2 lo hi h0 h3 ih =>
    refine ih (by omega) (by omega) h1 (fun i hi' hil hlt => ?_)
    by_cases e : i = lo + (hi - lo) / 2
    · rw [e] at hlt; exact h3 hlt
    · exact h3 (hm _ i (by omega) hil hlt)
  | case3 lo hi h0 =>
    have : lo = hi := by omega
    subst this
    exact ⟨hl, h1, h2⟩
theorem count_cut {α : Type} {p : α → Bool} (l : List α) (d : α) (k : Nat) (hk : k ≤ l.length) (h1 : ∀ i, i < k → p (l[i]?.getD d) = true) (h2 : ∀ i, k ≤ i → i < l.length → p (l[i]?.getD d) = false) : l.countP p = k := by
  induction l generalizing k with
  | nil => simp at hk ⊢; omega
  | cons a l ih =>
    cases k with
    | zero =>
      have h0 := h2 0 (Nat.le_refl _) (by simp)
      have := ih 0 (by omega) (fun i hi => by omega) (fun i _ hi => by have := h2 (i + 1) (by omega) (by simpa using hi); simpa using this)
      simp at h0
      rw [List.countP_cons, this]
      simp [h0]
    | succ k =>
      have h0 := h1 0 (by omega)
      have := ih k (by simpa using hk) (fun i hi => by have := h1 (i + 1) (by omega); simpa using this) (fun i hi hil => by have := h2 (i + 1) (by omega) (by simpa using hil); simpa using this)
      simp at h0
      rw [List.countP_cons, this]
      simp [h0]
theorem rises_get {o : Int} {s : List It} (h : s.Pairwise (fun a b => oK o a ≤ oK o b)) {i j : Nat} (hij : i < j) (hj : j < s.length) : oK o (s[i]?.getD (0, 0)) ≤ oK o (s[j]?.getD (0, 0)) := by
  have := List.pairwise_iff_getElem.1 h i j (by omega) hj hij
  simpa [show i < s.length by omega, hj] using this
/-- Search's number, and whether it is there -/
theorem search_spec (o : Int) (l : List It) (x : It) : bsr (byF o) (srt (byF o) 1 l) x 0 (srt (byF o) 1 l).length = l.countP (fun a => decide (ocmp o a x < 0)) ∧
    bsOk (byF o) (srt (byF o) 1 l) x (l.countP (fun a => decide (ocmp o a x < 0))) = l.any (fun a => ocmp o a x == 0) := by
  have hr := sort_rises o l
  have hp := srt_perm (byF o) 1 l
  obtain ⟨s, hs⟩ : ∃ s, srt (byF o) 1 l = s := ⟨_, rfl⟩
  rw [hs] at hr hp ⊢
  have sp := bsr_spec (f := byF o) (l := s) (x := x) (fun i j hij hj h => by
    have := rises_get hr hij hj
    exact byF_lt.2 (by have := byF_lt.1 h; omega)) (Nat.zero_le _) (Nat.le_refl _) (fun i hi => by omega) (fun i hi hl => by omega)
  have hc : s.countP (fun a => decide (ocmp o a x < 0)) = bsr (byF o) s x 0 s.length := by
    refine count_cut s (0, 0) _ sp.1 (fun i hi => ?_) (fun i hi hl => ?_)
    · simpa using (byF_neg o _ x).1 (sp.2.1 i hi)
    · have := sp.2.2 i hi hl
      simpa using fun e => this ((byF_neg o _ x).2 e)
  rw [hp.countP_eq] at hc
  refine ⟨hc.symm, ?_⟩
  rw [hc]
  rw [Bool.eq_iff_iff]
  simp only [bsOk, decide_eq_true_eq, List.any_eq_true, beq_iff_eq]
  constructor
  · rintro ⟨hk, he⟩
    refine ⟨s[bsr (byF o) s x 0 s.length]?.getD (0, 0), hp.mem_iff.1 ?_, (byF_zero o _ x).1 he⟩
    simp [hk]
  · rintro ⟨y, hy, he⟩
    obtain ⟨i, hi, hiy⟩ := List.getElem_of_mem (hp.mem_iff.2 hy)
    have hK := ocmp_eq.1 he
    have hki : bsr (byF o) s x 0 s.length ≤ i := by
      rcases Nat.lt_or_ge i (bsr (byF o) s x 0 s.length) with h | h
      · have := byF_lt.1 (sp.2.1 i h)
        simp [hi, hiy] at this
        omega
      · exact h
    have hkl : bsr (byF o) s x 0 s.length < s.length := by omega
    refine ⟨hkl, byF_eq.2 ?_⟩
    have hge : ¬ oK o (s[bsr (byF o) s x 0 s.length]?.getD (0, 0)) < oK o x := fun e => sp.2.2 _ (Nat.le_refl _) hkl (byF_lt.2 e)
    have hle : oK o (s[bsr (byF o) s x 0 s.length]?.getD (0, 0)) ≤ oK o y := by
      by_cases e : bsr (byF o) s x 0 s.length = i
      · rw [e]; simp [hi, hiy]
      · have := rises_get hr (show bsr (byF o) s x 0 s.length < i by omega) hi
        simpa [hi, hiy] using this
    omega

/-- alike to one ahead of it -/
def Rep (o : Int) (l : List It) (j : Nat) : Prop := ∃ i, i < j ∧ j < l.length ∧ oK o (l[i]?.getD (0, 0)) = oK o (l[j]?.getD (0, 0))
def nLt (o : Int) (l : List It) (a b : Int) : Prop := oK o (l[a.toNat]?.getD (0, 0)) < oK o (l[b.toNat]?.getD (0, 0)) ∨ (oK o (l[a.toNat]?.getD (0, 0)) = oK o (l[b.toNat]?.getD (0, 0)) ∧ a < b)
theorem upN_pw (n : Nat) : (upN n).Pairwise (· < ·) := by
  unfold upN
  rw [List.pairwise_map]
  exact (List.pairwise_lt_range).imp (fun h => by omega)
theorem nums_pw (o : Int) (l : List It) : (srt (byNo (byF o) l) 1 (upN l.length)).Pairwise (nLt o l) := by
  refine srt_pw (R := nLt o l) (fun a b c h1 h2 => ?_) ?_
  · unfold nLt at *; omega
  · refine (upN_pw l.length).imp (fun {a b} hab => ?_)
    unfold Apt nLt byNo
    refine ⟨fun h => .inl (byF_lt.1 h), fun h => ?_⟩
    have h2 : ¬ oK o (l[b.toNat]?.getD (0, 0)) < oK o (l[a.toNat]?.getD (0, 0)) := fun e => h (byF_lt.2 e)
    omega
theorem mem_reps {α : Type} {f : α → α → Int} (d : α) {xs : List α} {k p : Nat} : p ∈ reps f k xs ↔ ∃ q, p = k + q + 1 ∧ q + 1 < xs.length ∧ f (xs[q]?.getD d) (xs[q + 1]?.getD d) = 0 := by
  fun_induction reps f k xs with
  | case1 k x y t h ih =>
    rw [List.mem_cons, ih]
    constructor
    · rintro (rfl | ⟨q, h1, h2, h3⟩)
      · exact ⟨0, by omega, by simp, by simpa using h⟩
      · exact ⟨q + 1, by omega, by simpa using h2, by simpa using h3⟩
    · rintro ⟨q, h1, h2, h3⟩
      cases q with
      | zero => left; omega
      | succ q => right; exact ⟨q, by omega, by simpa using h2, by simpa using h3⟩
  | case2 k x y t h ih =>
    rw [ih]
    constructor
    · rintro ⟨q, h1, h2, h3⟩
      exact ⟨q + 1, by omega, by simpa using h2, by simpa using h3⟩
    · rintro ⟨q, h1, h2, h3⟩
      cases q with
      | zero => exact absurd (by simpa using h3) h
      | succ q => exact ⟨q, by omega, by simpa using h2, by simpa using h3⟩
  | case3 b a h =>
    constructor
    · intro h; cases h
    · rintro ⟨q, h1, h2, h3⟩
      rcases b with _ | ⟨b1, b⟩
      · simp at h2
      · rcases b with _ | ⟨b2, b⟩
        · simp at h2
        · exact (h _ _ _ rfl).elim
/-- the least of the numbers at these places, or what was there -/
theorem fold_least (ns : List Int) (hn : ∀ p, p < ns.length → 0 ≤ ns[p]?.getD 0) (ps : List Nat) (hp : ∀ p ∈ ps, p < ns.length) (acc : Int) (ha : -1 ≤ acc) :
    (ps.foldl (twS ns) acc = -1 ∧ acc = -1 ∧ ps = []) ∨ (0 ≤ ps.foldl (twS ns) acc ∧ (ps.foldl (twS ns) acc = acc ∨ ∃ p ∈ ps, ps.foldl (twS ns) acc = ns[p]?.getD 0) ∧ (0 ≤ acc → ps.foldl (twS ns) acc ≤ acc) ∧ ∀ p ∈ ps, ps.foldl (twS ns) acc ≤ ns[p]?.getD 0) := by
  induction ps generalizing acc with
  | nil =>
    by_cases h : acc = -1
    · exact .inl ⟨h, h, rfl⟩
    · refine .inr ⟨by simp; omega, .inl rfl, fun _ => Int.le_refl _, fun p hp => by cases hp⟩
  | cons p ps ih =>
    have h0 := hn p (hp p (by simp))
    have hv : 0 ≤ twS ns acc p ∧ (twS ns acc p = acc ∨ twS ns acc p = ns[p]?.getD 0) ∧ twS ns acc p ≤ ns[p]?.getD 0 ∧ (0 ≤ acc → twS ns acc p ≤ acc) := by
      unfold twS
      split <;> omega
    rw [List.foldl_cons]
    rcases ih (fun q hq => hp q (List.mem_cons_of_mem _ hq)) (twS ns acc p) (by omega) with ⟨_, h, _⟩ | ⟨r0, r1, r2, r3⟩
    · omega
    · have r2 := r2 hv.1
      refine .inr ⟨r0, ?_, fun h => by have := hv.2.2.2 h; omega, fun q hq => ?_⟩
      · rcases r1 with e | ⟨q, hq, e⟩
        · rcases hv.2.1 with e2 | e2
          · left; omega
          · right; exact ⟨p, by simp, by omega⟩
        · right; exact ⟨q, List.mem_cons_of_mem _ hq, e⟩
      · rcases List.mem_cons.1 hq with rfl | hq
        · have := hv.2.2.1; omega
        · exact r3 q hq
/-- Twice -/
theorem twice_spec (o : Int) (l : List It) : (tw (byF o) l = -1 ∧ ∀ j, ¬ Rep o l j) ∨ ∃ k : Nat, tw (byF o) l = k ∧ Rep o l k ∧ ∀ j, j < k → ¬ Rep o l j := by
  have hpw := nums_pw o l
  have hpm := srt_perm (byNo (byF o) l) 1 (upN l.length)
  unfold tw
  obtain ⟨ns, hns⟩ : ∃ ns, srt (byNo (byF o) l) 1 (upN l.length) = ns := ⟨_, rfl⟩
  rw [hns] at hpw hpm ⊢
  have hmem : ∀ x ∈ ns, 0 ≤ x ∧ x < (l.length : Int) := fun x hx => upN_mem (hpm.mem_iff.1 hx)
  have hget : ∀ p, p < ns.length → ns[p]?.getD 0 ∈ ns := fun p hp => by simp [hp]
  have hgp : ∀ q p, q < p → p < ns.length → nLt o l (ns[q]?.getD 0) (ns[p]?.getD 0) := fun q p hqp hp => by
    have := List.pairwise_iff_getElem.1 hpw q p (by omega) hp hqp
    simpa [show q < ns.length by omega, hp] using this
  have hps : ∀ p ∈ reps (byNo (byF o) l) 0 ns, p < ns.length := fun p hp => by
    obtain ⟨q, h1, h2, _⟩ := (mem_reps 0).1 hp
    omega
  -- what stands at these places is alike to one ahead of it
  have hA : ∀ p ∈ reps (byNo (byF o) l) 0 ns, Rep o l (ns[p]?.getD 0).toNat := fun p hp => by
    obtain ⟨q, h1, h2, h3⟩ := (mem_reps 0).1 hp
    obtain rfl : p = q + 1 := by omega
    have hl := hgp q (q + 1) (by omega) h2
    have m1 := hmem _ (hget q (by omega))
    have m2 := hmem _ (hget (q + 1) h2)
    have he := byF_eq.1 (show byF o _ _ = 0 from h3)
    refine ⟨(ns[q]?.getD 0).toNat, ?_, by omega, he⟩
    rcases hl with hl | ⟨_, hl⟩ <;> omega
  -- and each such is told
  have hB : ∀ j, Rep o l j → ∃ p ∈ reps (byNo (byF o) l) 0 ns, ns[p]?.getD 0 = (j : Int) := fun j ⟨i, hij, hj, he⟩ => by
    have hin : ∀ t : Nat, t < l.length → ∃ p, p < ns.length ∧ ns[p]?.getD 0 = (t : Int) := fun t ht => by
      have : (t : Int) ∈ ns := hpm.mem_iff.2 (by simp only [upN, List.mem_map, List.mem_range]; exact ⟨t, ht, rfl⟩)
      obtain ⟨p, hp, e⟩ := List.getElem_of_mem this
      exact ⟨p, hp, by simp [hp, e]⟩
    obtain ⟨p, hp, ep⟩ := hin j hj
    obtain ⟨q, hq, eq⟩ := hin i (by omega)
    have hqp : q < p := by
      rcases Nat.lt_trichotomy q p with h | h | h
      · exact h
      · subst h; omega
      · have := hgp p q h hq
        rw [ep, eq] at this
        unfold nLt at this
        simp only [Int.toNat_natCast] at this
        omega
    obtain ⟨r, rfl⟩ : ∃ r, p = r + 1 := ⟨p - 1, by omega⟩
    refine ⟨r + 1, (mem_reps 0).2 ⟨r, by omega, hp, ?_⟩, ep⟩
    have h1 := hgp r (r + 1) (by omega) hp
    rw [ep] at h1
    have h2 : oK o (l[i]?.getD (0, 0)) ≤ oK o (l[(ns[r]?.getD 0).toNat]?.getD (0, 0)) := by
      by_cases e : q = r
      · rw [← e, eq]; simp
      · have := hgp q r (by omega) (by omega)
        rw [eq] at this
        unfold nLt at this
        simp only [Int.toNat_natCast] at this
        omega
    unfold nLt at h1
    simp only [Int.toNat_natCast] at h1
    refine byF_eq.2 ?_
    rw [ep]
    simp only [Int.toNat_natCast]
    omega
  rcases fold_least ns (fun p hp => (hmem _ (hget p hp)).1) (reps (byNo (byF o) l) 0 ns) hps (-1) (by omega) with ⟨h, _, he⟩ | ⟨h0, h1, _, h3⟩
  · refine .inl ⟨h, fun j hj => ?_⟩
    obtain ⟨p, hp, _⟩ := hB j hj
    rw [he] at hp
    cases hp
  · rcases h1 with h1 | ⟨p, hp, h1⟩
    · omega
    · have hr := hA p hp
      refine .inr ⟨(ns[p]?.getD 0).toNat, by omega, hr, fun j hj hrj => ?_⟩
      obtain ⟨p2, hp2, e2⟩ := hB j hrj
      have := h3 p2 hp2
      omega

end Go.Proofs.Ytboikfcmbfaaeaa

namespace Go.Proofs.Ytboikfcmbfaaeaa
set_option linter.unusedVariables false

theorem mrg_map {α β : Type} {f : β → β → Int} {f' : α → α → Int} {g : α → β} (h : ∀ x y, f' x y = f (g x) (g y)) (xs ys : List α) : (mrg f' xs ys).map g = mrg f (xs.map g) (ys.map g) := by
  fun_induction mrg f' xs ys with
  | case1 ys => simp [mrg]
  | case2 x xs => simp [mrg]
  | case3 x xs y ys hlt ih => rw [List.map_cons, List.map_cons, List.map_cons, mrg, if_pos (by rw [← h]; exact hlt), ih]; rfl
  | case4 x xs y ys hlt ih => rw [List.map_cons, List.map_cons, List.map_cons, mrg, if_neg (by rw [← h]; exact hlt), ih]; rfl
theorem runs_map {α β : Type} {f : β → β → Int} {f' : α → α → Int} {g : α → β} (h : ∀ x y, f' x y = f (g x) (g y)) (s : Nat) (xs : List α) : (runs f' s xs).map g = runs f s (xs.map g) := by
  fun_induction runs f' s xs with
  | case1 xs h0 => rw [runs, dif_pos (by rcases h0 with rfl | h0; exact .inl rfl; exact .inr h0)]
  | case2 xs h0 ih =>
    have h1 : xs ≠ [] := fun e => h0 (.inl e)
    have h2 : s ≠ 0 := fun e => h0 (.inr e)
    rw [List.map_append, mrg_map h, ih, runs_step f (s := s) (xs := xs.map g) (by omega) (by simpa using h1)]
    simp [List.map_take, List.map_drop]
theorem srt_map {α β : Type} {f : β → β → Int} {f' : α → α → Int} {g : α → β} (h : ∀ x y, f' x y = f (g x) (g y)) (s : Nat) (xs : List α) : (srt f' s xs).map g = srt f s (xs.map g) := by
  fun_induction srt f' s xs with
  | case1 s xs h0 ih => rw [ih, runs_map h, ← srt_step f (by simpa using h0.1) h0.2]
  | case2 s xs h0 => rw [srt, dif_neg (by simpa using h0)]
/-- the numbers, sorted: what they number is the list, sorted -/
theorem nums_srt (o : Int) (l : List It) : (srt (byNo (byF o) l) 1 (upN l.length)).map (fun a => l[a.toNat]?.getD (0, 0)) = srt (byF o) 1 l := by
  rw [srt_map (f := byF o) (f' := byNo (byF o) l) (g := fun a : Int => l[a.toNat]?.getD (0, 0)) (fun x y => rfl)]
  congr 1
  unfold upN
  rw [List.map_map]
  apply List.ext_getElem
  · simp
  · intro i h1 h2
    simp [h2]
instance (o : Int) (l : List It) (a b : Int) : Decidable (nLt o l a b) := by unfold nLt; exact inferInstance
/-- how many are ahead of number i -/
def rnk (o : Int) (l : List It) (i : Nat) : Nat := (List.range l.length).countP (fun k => decide (ocmp o (l[k]?.getD (0, 0)) (l[i]?.getD (0, 0)) < 0 ∨ (ocmp o (l[k]?.getD (0, 0)) (l[i]?.getD (0, 0)) = 0 ∧ k < i)))
theorem rnk_at (o : Int) (l : List It) {p : Nat} (hp : p < (srt (byNo (byF o) l) 1 (upN l.length)).length) : rnk o l ((srt (byNo (byF o) l) 1 (upN l.length))[p]'hp).toNat = p := by
  have hpw := nums_pw o l
  have hpm := srt_perm (byNo (byF o) l) 1 (upN l.length)
  obtain ⟨ns, hns⟩ : ∃ ns, srt (byNo (byF o) l) 1 (upN l.length) = ns := ⟨_, rfl⟩
  simp only [hns] at hpw hpm hp ⊢
  have hm := upN_mem (hpm.mem_iff.1 (List.getElem_mem hp))
  have e1 : rnk o l (ns[p]).toNat = (upN l.length).countP (fun a => decide (nLt o l a ns[p])) := by
    unfold rnk upN
    rw [List.countP_map]
    apply List.countP_congr
    intro k hk
    simp only [Function.comp]
    rw [decide_eq_true_iff, decide_eq_true_iff]
    unfold nLt
    simp only [Int.toNat_natCast]
    constructor
    · rintro (h | ⟨h, h2⟩)
      · exact .inl (ocmp_lt.1 h)
      · exact .inr ⟨ocmp_eq.1 h, by omega⟩
    · rintro (h | ⟨h, h2⟩)
      · exact .inl (ocmp_lt.2 h)
      · exact .inr ⟨ocmp_eq.2 h, by omega⟩
  rw [e1, ← hpm.countP_eq]
  have asym : ∀ a b, nLt o l a b → ¬ nLt o l b a := fun a b h1 h2 => by unfold nLt at h1 h2; omega
  refine count_cut ns 0 p (by omega) (fun i hi => ?_) (fun i hi hil => ?_)
  · have := List.pairwise_iff_getElem.1 hpw i p (by omega) hp hi
    simpa [show i < ns.length by omega] using this
  · by_cases e : i = p
    · subst e
      simp only [hil, List.getElem?_eq_getElem, Option.getD_some, decide_eq_false_iff_not]
      intro h
      exact asym _ _ h h
    · have := List.pairwise_iff_getElem.1 hpw p i hp hil (by omega)
      simp only [hil, List.getElem?_eq_getElem, Option.getD_some, decide_eq_false_iff_not]
      exact asym _ _ this

end Go.Proofs.Ytboikfcmbfaaeaa

namespace Go.Proofs.Ytboikfcmbfaaeaa
open Go.RowKit Go.Shelf
set_option linter.unusedVariables false
set_option linter.unusedSimpArgs false

theorem rnk_place (o : Int) (l : List It) {i : Nat} (hi : i < l.length) : ∃ p, ∃ h : p < (srt (byNo (byF o) l) 1 (upN l.length)).length, (srt (byNo (byF o) l) 1 (upN l.length))[p] = (i : Int) ∧ rnk o l i = p := by
  have : (i : Int) ∈ srt (byNo (byF o) l) 1 (upN l.length) := mem_srt.2 (by simp only [upN, List.mem_map, List.mem_range]; exact ⟨i, hi, rfl⟩)
  obtain ⟨p, hp, e⟩ := List.getElem_of_mem this
  refine ⟨p, hp, e, ?_⟩
  have := rnk_at o l hp
  rw [e] at this
  simpa using this
theorem rnk_lt (o : Int) (l : List It) {i : Nat} (hi : i < l.length) : rnk o l i < l.length := by
  obtain ⟨p, hp, _, e⟩ := rnk_place o l hi
  rw [srt_len, upN_len] at hp
  omega
theorem rnk_ne (o : Int) (l : List It) {i t : Nat} (hi : i < l.length) (ht : t < i) : rnk o l t ≠ rnk o l i := by
  obtain ⟨p, hp, e1, e2⟩ := rnk_place o l hi
  obtain ⟨q, hq, e3, e4⟩ := rnk_place o l (show t < l.length by omega)
  intro e
  have : p = q := by omega
  subst this
  rw [e1] at e3
  omega
theorem rnk_all (o : Int) (l zs : List It) (hz : zs.length = l.length) (h : ∀ t, t < l.length → zs[rnk o l t]?.getD (0, 0) = l[t]?.getD (0, 0)) : zs = srt (byF o) 1 l := by
  apply List.ext_getElem
  · rw [hz, srt_len]
  · intro p h1 h2
    have hp : p < (srt (byNo (byF o) l) 1 (upN l.length)).length := by rw [srt_len, upN_len]; omega
    have hm := upN_mem (mem_srt.1 (List.getElem_mem hp))
    have e := rnk_at o l hp
    have := h ((srt (byNo (byF o) l) 1 (upN l.length))[p]).toNat (by omega)
    rw [e] at this
    have e2 : (srt (byF o) 1 l)[p] = l[((srt (byNo (byF o) l) 1 (upN l.length))[p]).toNat]?.getD (0, 0) := by
      have := nums_srt o l
      have h3 : p < ((srt (byNo (byF o) l) 1 (upN l.length)).map (fun a => l[a.toNat]?.getD (0, 0))).length := by rw [List.length_map]; exact hp
      have h4 : ((srt (byNo (byF o) l) 1 (upN l.length)).map (fun a => l[a.toNat]?.getD (0, 0)))[p]'h3 = (srt (byF o) 1 l)[p] := by simp only [this]
      rw [← h4, List.getElem_map]
    rw [e2, ← this]
    simp [h1]
def rnkP (o : Int) (l : List It) (i k : Nat) : Nat := (List.range k).countP (fun t => decide (ocmp o (l[t]?.getD (0, 0)) (l[i]?.getD (0, 0)) < 0 ∨ (ocmp o (l[t]?.getD (0, 0)) (l[i]?.getD (0, 0)) = 0 ∧ t < i)))
theorem rnkP_step (o : Int) (l : List It) (i k : Nat) : rnkP o l i (k + 1) = rnkP o l i k + (if ocmp o (l[k]?.getD (0, 0)) (l[i]?.getD (0, 0)) < 0 ∨ (ocmp o (l[k]?.getD (0, 0)) (l[i]?.getD (0, 0)) = 0 ∧ k < i) then 1 else 0) := by
  unfold rnkP
  rw [List.range_succ, List.countP_append]
  by_cases h : ocmp o (l[k]?.getD (0, 0)) (l[i]?.getD (0, 0)) < 0 ∨ (ocmp o (l[k]?.getD (0, 0)) (l[i]?.getD (0, 0)) = 0 ∧ k < i) <;> simp [h]
theorem rnkP_le (o : Int) (l : List It) (i k : Nat) : rnkP o l i k ≤ k := Nat.le_trans List.countP_le_length (by simp)

end Go.Proofs.Ytboikfcmbfaaeaa

namespace Go.Proofs.Ytboikfcmbfaaeaa
open Go.RowKit Go.Shelf
set_option linter.unusedVariables false
set_option linter.unusedSimpArgs false

theorem onil_nil {t : TypeId} (h : ∃ a b c, Try.prog.underlying t = some (.func a b c)) (w : World) : (binOp .eql t .nilFunc .nilFunc).run Try.prog w = .ok (.bool true) w := by
  obtain ⟨x, y, z, h⟩ := h
  have e : (Op.equalIn (Op.maxDepth - 1 + 1) t .nilFunc .nilFunc).run Try.prog w = .ok true w := by simp [Op.equalIn, run_underlying h]
  rw [show Op.maxDepth - 1 + 1 = Op.maxDepth from rfl] at e
  simp [binOp, Op.equal, e]
set_option maxRecDepth 100000 in
set_option maxHeartbeats 2000000 in
theorem search_nil {w : World} {ao : Option Addr} {n c : Nat} {x : It} : Calls Try.prog 29 #[.slice ao n c, itV x, .nilFunc] w fun e w' => e = .returned (.tuple #[.int .i64 0, .bool false]) ∧ Below w.heap.size w w' := by
  obtain ⟨x1, x2⟩ := x
  have hfn : ∀ w : World, (binOp .eql 30 .nilFunc .nilFunc).run Try.prog w = .ok (.bool true) w := onil_nil itdesc
  go_enter Try.func29, Try.ntmps29
  go_wp2
  exact bodyPost_ret (v := .tuple #[.int .i64 0, .bool false]) (by simp [results, Try.results29, go_sem]) rfl ⟨rfl, (Below.refl _ w).alloc (Nat.le_refl _) _⟩
set_option maxRecDepth 100000 in
set_option maxHeartbeats 2000000 in
theorem sort_nil {w : World} {ao : Option Addr} {n c : Nat} : Calls Try.prog 11 #[.slice ao n c, .nilFunc] w fun e w' => e = .returned (.slice none 0 0) ∧ w' = w := by
  have hfn : ∀ w : World, (binOp .eql 30 .nilFunc .nilFunc).run Try.prog w = .ok (.bool true) w := onil_nil itdesc
  go_enter Try.func11, Try.ntmps11
  go_wp2
  go_ret
  exact ⟨rfl, rfl⟩
/-- the first place that is not below -/
def fst12 (o : Int) (s : List It) (x : It) : Nat := s.findIdx (fun a => !decide (ocmp o a x < 0))
theorem fst12_bsr (o : Int) (l : List It) (x : It) : bsr (byF o) (srt (byF o) 1 l) x 0 (srt (byF o) 1 l).length = fst12 o (srt (byF o) 1 l) x := by
  have hr := sort_rises o l
  obtain ⟨s, hs⟩ : ∃ s, srt (byF o) 1 l = s := ⟨_, rfl⟩
  rw [hs] at hr ⊢
  have sp := bsr_spec (f := byF o) (l := s) (x := x) (fun i j hij hj h => by
    have := rises_get hr hij hj
    exact byF_lt.2 (by have := byF_lt.1 h; omega)) (Nat.zero_le _) (Nat.le_refl _) (fun i hi => by omega) (fun i hi hl => by omega)
  obtain ⟨k, hk⟩ : ∃ k, bsr (byF o) s x 0 s.length = k := ⟨_, rfl⟩
  rw [hk] at sp ⊢
  unfold fst12
  rcases Nat.lt_or_ge k s.length with h | h
  · symm
    rw [List.findIdx_eq h]
    refine ⟨?_, fun j hj => ?_⟩
    · have := sp.2.2 k (Nat.le_refl _) h
      simp only [h, List.getElem?_eq_getElem, Option.getD_some] at this
      simpa using fun e => this ((byF_neg o _ x).2 e)
    · have := sp.2.1 j hj
      have hjl : j < s.length := by omega
      simp only [hjl, List.getElem?_eq_getElem, Option.getD_some] at this
      simpa using (byF_neg o _ x).1 this
  · have hk2 : k = s.length := by omega
    rw [hk2]
    symm
    rw [List.findIdx_eq_length]
    intro a ha
    obtain ⟨j, hj, rfl⟩ := List.getElem_of_mem ha
    have := sp.2.1 j (by omega)
    simp only [hj, List.getElem?_eq_getElem, Option.getD_some] at this
    simpa using (byF_neg o _ x).1 this

end Go.Proofs.Ytboikfcmbfaaeaa

namespace Go.Proofs.Ytboikfcmbfaaeaa
open Go.RowKit Go.Shelf
set_option linter.unusedVariables false
set_option linter.unusedSimpArgs false
set_option maxRecDepth 100000 in
set_option maxHeartbeats 2000000 in
theorem twice_nil {w : World} {ao : Option Addr} {n c : Nat} : Calls Try.prog 30 #[.slice ao n c, .nilFunc] w fun e w' => e = .returned (.int .i64 (-1)) ∧ Below w.heap.size w w' := by
  have hfn : ∀ w : World, (binOp .eql 30 .nilFunc .nilFunc).run Try.prog w = .ok (.bool true) w := onil_nil itdesc
  go_enter Try.func30, Try.ntmps30
  go_wp2
  go_ret
  first
  | exact ⟨rfl, Below.refl _ w⟩
  | exact ⟨rfl, (Below.refl _ w).alloc (Nat.le_refl _) _⟩
  | exact ⟨rfl, ((Below.refl _ w).alloc (Nat.le_refl _) _).alloc (by simp) _⟩
end Go.Proofs.Ytboikfcmbfaaeaa

namespace Go.Proofs.Ytboikfcmbfaaeaa
open Go.RowKit Go.Shelf
set_option linter.unusedVariables false
set_option linter.unusedSimpArgs false

theorem fst12_at {o : Int} {s : List It} {x : It} {k : Nat} (h1 : ∀ j, j < k → ocmp o (s[j]?.getD (0, 0)) x < 0) (hk : k < s.length) (h2 : ¬ ocmp o (s[k]?.getD (0, 0)) x < 0) : fst12 o s x = k := by
  unfold fst12
  rw [List.findIdx_eq hk]
  simp only [hk, List.getElem?_eq_getElem, Option.getD_some] at h2
  refine ⟨by simpa using h2, fun j hj => ?_⟩
  have := h1 j hj
  have hjl : j < s.length := by omega
  simp only [hjl, List.getElem?_eq_getElem, Option.getD_some] at this
  simpa using this
theorem fst12_end {o : Int} {s : List It} {x : It} (h1 : ∀ j, j < s.length → ocmp o (s[j]?.getD (0, 0)) x < 0) : fst12 o s x = s.length := by
  unfold fst12
  rw [List.findIdx_eq_length]
  intro a ha
  obtain ⟨j, hj, rfl⟩ := List.getElem_of_mem ha
  have := h1 j hj
  simp only [hj, List.getElem?_eq_getElem, Option.getD_some] at this
  simpa using this

end Go.Proofs.Ytboikfcmbfaaeaa

namespace Go.Proofs.Ytboikfcmbfaaeaa
open Go.RowKit Go.Shelf
set_option linter.unusedVariables false
set_option linter.unusedSimpArgs false

theorem tw_is {o : Int} {l : List It} {k : Nat} (h : Rep o l k) (hn : ∀ j, j < k → ¬ Rep o l j) : tw (byF o) l = k := by
  rcases twice_spec o l with ⟨_, h2⟩ | ⟨j, e, hj, hm⟩
  · exact absurd h (h2 k)
  · rcases Nat.lt_trichotomy j k with h3 | h3 | h3
    · exact absurd hj (hn j h3)
    · rw [e, h3]
    · exact absurd h (hm k h3)
theorem tw_none {o : Int} {l : List It} (hn : ∀ j, ¬ Rep o l j) : tw (byF o) l = -1 := by
  rcases twice_spec o l with ⟨h, _⟩ | ⟨j, e, hj, hm⟩
  · exact h
  · exact absurd hj (hn j)

end Go.Proofs.Ytboikfcmbfaaeaa
