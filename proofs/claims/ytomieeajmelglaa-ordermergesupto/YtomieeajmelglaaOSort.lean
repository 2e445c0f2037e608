/- Sort (it) -/
import Derived.Test.YtomieeajmelglaaORuns
import Derived.Laws.CopyOwn
namespace Go.Proofs.Ytomieeajmelglaa
open Go.RowKit Go.Shelf
set_option linter.unusedVariables false

/-- the sizes of the runs doubled, till one run is left -/
def srt {α : Type} (f : α → α → Int) (s : Nat) (xs : List α) : List α :=
  if h : s < xs.length ∧ 0 < s then srt f (s * 2) (runs f s xs) else xs
termination_by xs.length - s
decreasing_by rw [runs_len]; omega
theorem srt_step {α : Type} (f : α → α → Int) {s : Nat} {xs : List α} (h : s < xs.length) (h0 : 0 < s) : srt f s xs = srt f (s * 2) (runs f s xs) := by rw [srt, dif_pos ⟨h, h0⟩]
theorem srt_end {α : Type} (f : α → α → Int) {s : Nat} {xs : List α} (h : ¬ s < xs.length) : srt f s xs = xs := by rw [srt, dif_neg (fun e => h e.1)]
theorem srt_len {α : Type} (f : α → α → Int) (s : Nat) (xs : List α) : (srt f s xs).length = xs.length := by
  fun_induction srt f s xs with
  | case1 s xs h ih => rw [ih, runs_len]
  | case2 s xs h => rfl
/-- lists in memory of their own -/
def Own12 (B : Nat) (w : World) (v : Value) (xs : List It) : Prop := (xs = [] ∧ v = .slice none 0 0) ∨ ∃ g, v = .slice (some ⟨g, 0, none⟩) xs.length xs.length ∧ B ≤ g ∧ ItRow w g xs ∧ xs.length ≤ maxLen
theorem Own12.rd {B : Nat} {w : World} {v : Value} {xs : List It} (h : Own12 B w v xs) : ItRd (fun g => B ≤ g) w v xs := by
  rcases h with ⟨rfl, rfl⟩ | ⟨g, rfl, h1, h2, h3⟩
  · exact ⟨none, 0, rfl, Nat.le_refl _, by unfold maxLen; omega, fun h => absurd h (by simp)⟩
  · exact h2.rd h1 (Nat.le_refl _) h3
set_option maxRecDepth 100000 in
theorem itinfoM : (Try.prog.info? 27).map (fun i => (i.zero, i.size, i.bytes)) = some (some (.agg #[.int .i64 0, .int .i64 0]), 2, 16) := by kernel_rfl
set_option maxRecDepth 100000 in
theorem itdesc : ∃ a b c, Try.prog.underlying 28 = some (.func a b c) := ⟨#[27, 27], #[3], false, by kernel_rfl⟩
set_option maxRecDepth 100000 in
theorem itinfoC : (Try.prog.info? 27).map (·.size) = some 2 := by kernel_rfl
theorem flat_zeros (n : Nat) : flat (List.replicate n ((0, 0) : It)) = List.replicate (n * 2) (.int .i64 0) := by
  induction n with
  | zero => rfl
  | succ n ih => rw [List.replicate_succ, flat_cons, ih, show (n + 1) * 2 = n * 2 + 1 + 1 by omega, List.replicate_succ, List.replicate_succ]
theorem made_items (n : Nat) : madeCells #[Value.int .i64 0, Value.int .i64 0] (n * 2) = (flat (List.replicate n ((0, 0) : It))).toArray := by
  rw [flat_zeros]
  apply Array.ext
  · simp [madeCells]
  · intro i h1 h2
    simp only [madeCells, Array.getElem_map, Array.getElem_range, List.getElem_toArray, List.getElem_replicate]
    rcases (show i % 2 = 0 ∨ i % 2 = 1 by omega) with e | e <;> simp [e]
theorem mk_items {n : Nat} (hn : n ≤ 8796093022208) (w : World) : (Instr.makeSlice 22 (.int .i64 (n : Int)) (.int .i64 (n : Int))).run Try.prog w = .ok (.slice (some ⟨w.heap.size, 0, none⟩) n n) (w.alloc (.cells (flat (List.replicate n ((0, 0) : It))).toArray 27)) := by
  obtain ⟨i0, hi, hz0, hz1, hz2⟩ := info_parts itinfoM
  have := run_make (P := Try.prog) w 22 27 i0 _ Try.underlying22 hi hz0 .i64 .i64 n n (by omega) (Int.le_refl _) (by rw [hz2]; omega) (by omega)
  rw [this, hz1]
  simp only [Int.toNat_natCast]
  rw [show (Value.agg #[Value.int .i64 0, Value.int .i64 0]).cells = #[Value.int .i64 0, Value.int .i64 0] from rfl, made_items]
theorem ofunc_nil {t : TypeId} (h : ∃ a b c, Try.prog.underlying t = some (.func a b c)) (w : World) (f : Fn) (a c : Array Value) : (binOp .eql t (.func f a c) .nilFunc).run Try.prog w = .ok (.bool false) w := by
  obtain ⟨x, y, z, h⟩ := h
  have e : (Op.equalIn (Op.maxDepth - 1 + 1) t (.func f a c) .nilFunc).run Try.prog w = .ok false w := by simp [Op.equalIn, run_underlying h]
  rw [show Op.maxDepth - 1 + 1 = Op.maxDepth from rfl] at e
  simp [binOp, Op.equal, e]
theorem flat_one (xs : List It) : ∀ v ∈ flat xs, v.oneCell' = true := by
  intro v hv
  simp only [flat, List.mem_flatMap] at hv
  obtain ⟨x, _, hv⟩ := hv
  simp at hv
  rcases hv with rfl | rfl <;> rfl
theorem run_copy_items (w : World) (ty : TypeId) (g o dLen dCap : Nat) (a : Addr) (sLen sCap : Nat) (cur : Array Value) (t : TypeId) (cs : List Value) (hg : w.heap[g]? = some (.cells cur t (0, 0))) (hn : cs.length = Nat.min sLen dLen * 2)
    (hsrc : ∀ j v, cs[j]? = some v → w.cell? (a.add j) = some v) (hfit : o + cs.length ≤ cur.size) (h1 : ∀ v ∈ cs, v.oneCell' = true) :
    (Builtin.copy_ #[22, 22] ty #[.slice (some ⟨g, o, none⟩) dLen dCap, .slice (some a) sLen sCap]).run Try.prog w = .ok (goInt (Nat.min sLen dLen)) (w.setRow g (cur.toList.take o ++ cs ++ cur.toList.drop (o + cs.length)).toArray) := by
  have hl := run_loadCells_list (P := Try.prog) w a cs hsrc
  have hst := run_storeCells_at Try.prog g o t cs 0 cur w hg (by simpa using hfit) h1
  have hs := itinfoC
  cases hq : Try.prog.info? 27 with
  | none => simp [hq] at hs
  | some i =>
    have hi : i.size = 2 := by simpa [hq] using hs
    simp [Builtin.copy_, run_underlying Try.underlying22, Builtin.lenOf, Builtin.firstCells, sizeOf, typeInfo, hq, hi, ← hn, hl, hst]
theorem itcopy_new {w W : World} {g : Nat} {ao : Option Addr} {ca : Nat} {xs zs : List It} (hB : Below w.heap.size w W) (hr : ItRow W g zs) (hz : zs.length = xs.length) (ha : ItRd (fun _ => True) w (.slice ao xs.length ca) xs) (hg : w.heap.size ≤ g) (h0 : 0 < xs.length) :
    ∃ W3, (Builtin.copy_ #[22, 22] 3 #[.slice (some ⟨g, 0, none⟩) xs.length xs.length, .slice ao xs.length ca]).run Try.prog W = .ok (.int .i64 xs.length) W3 ∧ ItRow W3 g xs ∧ W.grownBy W3 (some g) := by
  obtain ⟨ao', cap, e, h1, h2, h3⟩ := ha
  obtain ⟨_, _⟩ : ao = ao' ∧ ca = cap := by injection e; exact ⟨by assumption, by assumption⟩
  subst ao' cap
  obtain ⟨b, off, rfl, _, hb, hi⟩ := h3 h0
  have hrun := run_copy_items W 3 g 0 xs.length xs.length ⟨b, off, none⟩ xs.length ca _ 27 (flat xs) hr (by rw [flat_len, show Nat.min xs.length xs.length = xs.length from Nat.min_self _]) ?_ (by simp [flat_len, hz]) (flat_one xs)
  · refine ⟨_, hrun.trans (by rw [show Nat.min xs.length xs.length = xs.length from Nat.min_self _]; rfl), ?_, ?_⟩
    · unfold ItRow
      rw [setRow_heap _ _ _ _ _ _ hr]
      have : (flat zs).drop (flat xs).length = [] := List.drop_eq_nil_of_le (by rw [flat_len, flat_len, hz]; exact Nat.le_refl _)
      simp [this]
    · exact ⟨rfl, rfl, rfl, by simp [World.setRow], fun k _ hk => setRow_other W g k _ (fun e => hk (by rw [e]))⟩
  · intro j v hj
    have hjl : j < (flat xs).length := (List.getElem?_eq_some_iff.1 hj).1
    rw [flat_len] at hjl
    have q := hi (j / 2) (by omega)
    have fg := flat_get xs (j / 2) (by omega)
    rw [Addr.add_lit]
    rcases (show j % 2 = 0 ∨ j % 2 = 1 by omega) with e | e
    · have ej : j = j / 2 * 2 := by omega
      rw [ej, fg.1] at hj
      rw [ej, ← hj]
      exact (hB.cell (p := ⟨b, _, none⟩) hb).trans q.1
    · have ej : j = j / 2 * 2 + 1 := by omega
      rw [ej, fg.2] at hj
      rw [ej, ← hj, ← Nat.add_assoc]
      exact (hB.cell (p := ⟨b, _, none⟩) hb).trans q.2
set_option maxRecDepth 100000 in
set_option maxHeartbeats 8000000 in
theorem itsort_any {w : World} {va cv : Value} {xs : List It} {I : World → Prop} {f : It → It → Int} (hx : xs.length ≤ 8796093022208) (ha : ItRd (fun _ => True) w va xs) (hc : CmpIs I cv f) (hIw : I w) (hI : ∀ W W', I W → Below w.heap.size W W' → I W') :
    Calls Try.prog 9 #[va, cv] w fun e w' => (∃ v, e = .returned v ∧ Own12 w.heap.size w' v (srt f 1 xs)) ∧ Below w.heap.size w w' := by
  have hcc := hc
  obtain ⟨cg, cl, rfl, eg, hcall⟩ := hc.val
  have haa := ha
  obtain ⟨ao, ca, rfl, hac, ham, hacl⟩ := ha
  have HA := hide haa
  have HCC := hide hcc
  have HIw := hide hIw
  have HI := hide hI
  have HACL := hide hacl
  unfold maxLen at ham
  clear hcc hc hcall haa hacl hIw hI
  have hfn : ∀ (w : World) f a c, (binOp .eql 28 (.func f a c) .nilFunc).run Try.prog w = .ok (.bool false) w := ofunc_nil itdesc
  have mk := mk_items (n := xs.length) hx
  by_cases h0 : xs.length = 0
  · have q0 : ((xs.length : Int) == 0) = true := by rw [h0]; rfl
    go_enter Try.func9, Try.ntmps9
    go_wp2
    go_ret
    exact ⟨⟨_, rfl, .inl ⟨List.eq_nil_of_length_eq_zero (by rw [srt_len, h0]), rfl⟩⟩, Below.refl _ _⟩
  · have q0 : ((xs.length : Int) == 0) = false := by rw [beq_eq_false_iff_ne]; omega
    go_enter Try.func9, Try.ntmps9
    go_wp2
    go_region
    · skip
      obtain ⟨W2, hW2⟩ : ∃ u, ((w.alloc (.cells (flat (List.replicate xs.length ((0, 0) : It))).toArray 27)).alloc (.cells (flat (List.replicate xs.length ((0, 0) : It))).toArray 27)).drew = u := ⟨_, rfl⟩
      have r1 : ItRow W2 w.heap.size (List.replicate xs.length ((0, 0) : It)) := by rw [← hW2]; exact (Below.heap_alloc (w.alloc (.cells (flat (List.replicate xs.length ((0, 0) : It))).toArray 27)) _ w.heap.size (by simp)).trans (heap_alloc_new w _)
      have r2 : ItRow W2 (w.heap.size + 1) (List.replicate xs.length ((0, 0) : It)) := by
        rw [← hW2]
        have := heap_alloc_new (w.alloc (.cells (flat (List.replicate xs.length ((0, 0) : It))).toArray 27)) (.cells (flat (List.replicate xs.length ((0, 0) : It))).toArray 27)
        rw [World.size_alloc] at this
        exact this
      have hB2 : Below w.heap.size w W2 := by rw [← hW2]; exact (((Below.refl _ w).alloc (Nat.le_refl _) _).alloc (by simp) _).drew
      rw [hW2]
      clear hW2 mk
      obtain ⟨W3, hcp, r3, hg3⟩ := itcopy_new (g := w.heap.size) (w := w) hB2 r1 (by simp) HA.out (by omega) (by omega)
      have r4 : ItRow W3 (w.heap.size + 1) (List.replicate xs.length ((0, 0) : It)) := r2.keep (hg3.block _ r2.lt (by simp))
      have hB3 : Below w.heap.size w W3 := hB2.grown hg3 hB2.size (fun k e => by cases e; omega)
      have R3 := hide r3
      have R4 := hide r4
      have HB3 := hide hB3
      clear r1 r2 r3 r4 hB2 hB3 hg3
      go_wp2
      go_loopw [5, 6, 7] (fun fv iv sv wr => ∃ (a b s : Nat) (ys zs : List It), fv = .slice (some ⟨a, 0, none⟩) xs.length xs.length ∧ iv = .slice (some ⟨b, 0, none⟩) xs.length xs.length ∧ sv = .int .i64 s ∧ a ≠ b ∧ w.heap.size ≤ a ∧ w.heap.size ≤ b ∧ 0 < s ∧ s ≤ 17592186044416 ∧ Hid (ItRow wr a ys ∧ ItRow wr b zs ∧ ys.length = xs.length ∧ zs.length = xs.length ∧ srt f s ys = srt f 1 xs ∧ Below w.heap.size w wr)) (fun _ _ sv _ => xs.length - (intOf sv).toNat)
      case atStart => exact ⟨w.heap.size, w.heap.size + 1, 1, xs, _, rfl, rfl, rfl, by omega, by omega, by omega, by omega, by omega, hide ⟨R3.out, R4.out, rfl, by simp, rfl, HB3.out⟩⟩
      case round =>
        obtain ⟨a, b, s, ys, zs, rfl, rfl, rfl, hab, ha, hb, hs0, hs1, H⟩ := hrel
        clear R3 R4 HB3
        by_cases hsl : s < xs.length
        · have q1 : (s : Int) < (xs.length : Int) := by omega
          have c := itruns_any (w := wr) (gi := b) (ci := xs.length) (s := s) (xs := ys) (ws := zs) (I := I) (f := f) hs0 (by omega) (by rw [H.out.2.2.1]; omega) H.out.2.1 (by rw [H.out.2.2.1, H.out.2.2.2.1]) (by rw [H.out.2.2.1]; exact Nat.le_refl _) (by unfold maxLen; omega) (H.out.1.rd hab (Nat.le_refl _) (by rw [H.out.2.2.1]; unfold maxLen; omega)) HCC.out (HI.out _ _ HIw.out H.out.2.2.2.2.2) (fun U U' h kk => HI.out U U' h (kk.below H.out.2.2.2.2.2.size (fun k hk e => by omega)))
          rw [H.out.2.2.1] at c
          have HC := hide c
          clear c
          go_wp2_with fail
          refine HC.out.mono ?_
          rintro e w1 ⟨rfl, k1, k2⟩
          have H2 : Hid (ItRow w1 b (runs f s ys) ∧ ItRow w1 a ys ∧ (runs f s ys).length = xs.length ∧ ys.length = xs.length ∧ srt f (s * 2) (runs f s ys) = srt f 1 xs ∧ Below w.heap.size w w1) := hide ⟨k1, H.out.1.keep (k2.block _ H.out.1.lt hab), by rw [runs_len, H.out.2.2.1], H.out.2.2.1, by rw [← H.out.2.2.2.2.1, srt_step f (s := s) (by rw [H.out.2.2.1]; exact hsl) hs0], H.out.2.2.2.2.2.trans (k2.below (B := w.heap.size) H.out.2.2.2.2.2.size (fun k hk e => by omega))⟩
          clear k1 k2 HC H
          go_wp2
          go_roundw
          case rel => exact ⟨b, a, s * 2, _, _, rfl, rfl, by simp, fun e => hab e.symm, hb, ha, by omega, by omega, H2⟩
          case measure => simp [intOf]; omega
        · have q1 : ¬ (s : Int) < (xs.length : Int) := by omega
          go_wp2
          go_ret
          refine ⟨⟨_, rfl, .inr ⟨a, ?_, ha, ?_, ?_⟩⟩, H.out.2.2.2.2.2⟩
          · rw [srt_len]; rfl
          · rw [← H.out.2.2.2.2.1, srt_end f (by rw [H.out.2.2.1]; exact hsl)]; exact H.out.1
          · rw [srt_len]; unfold maxLen; omega
    · skip
      obtain ⟨W2, hW2⟩ : ∃ u, ((w.alloc (.cells (flat (List.replicate xs.length ((0, 0) : It))).toArray 27)).alloc (.cells (flat (List.replicate xs.length ((0, 0) : It))).toArray 27)).drew = u := ⟨_, rfl⟩
      have r1 : ItRow W2 w.heap.size (List.replicate xs.length ((0, 0) : It)) := by rw [← hW2]; exact (Below.heap_alloc (w.alloc (.cells (flat (List.replicate xs.length ((0, 0) : It))).toArray 27)) _ w.heap.size (by simp)).trans (heap_alloc_new w _)
      have r2 : ItRow W2 (w.heap.size + 1) (List.replicate xs.length ((0, 0) : It)) := by
        rw [← hW2]
        have := heap_alloc_new (w.alloc (.cells (flat (List.replicate xs.length ((0, 0) : It))).toArray 27)) (.cells (flat (List.replicate xs.length ((0, 0) : It))).toArray 27)
        rw [World.size_alloc] at this
        exact this
      have hB2 : Below w.heap.size w W2 := by rw [← hW2]; exact (((Below.refl _ w).alloc (Nat.le_refl _) _).alloc (by simp) _).drew
      rw [hW2]
      clear hW2 mk
      obtain ⟨W3, hcp, r3, hg3⟩ := itcopy_new (g := w.heap.size + 1) (w := w) hB2 r2 (by simp) HA.out (by omega) (by omega)
      have r4 : ItRow W3 (w.heap.size) (List.replicate xs.length ((0, 0) : It)) := r1.keep (hg3.block _ r1.lt (by simp))
      have hB3 : Below w.heap.size w W3 := hB2.grown hg3 hB2.size (fun k e => by cases e; omega)
      have R3 := hide r3
      have R4 := hide r4
      have HB3 := hide hB3
      clear r1 r2 r3 r4 hB2 hB3 hg3
      go_wp2
      go_loopw [5, 6, 7] (fun fv iv sv wr => ∃ (a b s : Nat) (ys zs : List It), fv = .slice (some ⟨a, 0, none⟩) xs.length xs.length ∧ iv = .slice (some ⟨b, 0, none⟩) xs.length xs.length ∧ sv = .int .i64 s ∧ a ≠ b ∧ w.heap.size ≤ a ∧ w.heap.size ≤ b ∧ 0 < s ∧ s ≤ 17592186044416 ∧ Hid (ItRow wr a ys ∧ ItRow wr b zs ∧ ys.length = xs.length ∧ zs.length = xs.length ∧ srt f s ys = srt f 1 xs ∧ Below w.heap.size w wr)) (fun _ _ sv _ => xs.length - (intOf sv).toNat)
      case atStart => exact ⟨w.heap.size + 1, w.heap.size, 1, xs, _, rfl, rfl, rfl, by omega, by omega, by omega, by omega, by omega, hide ⟨R3.out, R4.out, rfl, by simp, rfl, HB3.out⟩⟩
      case round =>
        obtain ⟨a, b, s, ys, zs, rfl, rfl, rfl, hab, ha, hb, hs0, hs1, H⟩ := hrel
        clear R3 R4 HB3
        by_cases hsl : s < xs.length
        · have q1 : (s : Int) < (xs.length : Int) := by omega
          have c := itruns_any (w := wr) (gi := b) (ci := xs.length) (s := s) (xs := ys) (ws := zs) (I := I) (f := f) hs0 (by omega) (by rw [H.out.2.2.1]; omega) H.out.2.1 (by rw [H.out.2.2.1, H.out.2.2.2.1]) (by rw [H.out.2.2.1]; exact Nat.le_refl _) (by unfold maxLen; omega) (H.out.1.rd hab (Nat.le_refl _) (by rw [H.out.2.2.1]; unfold maxLen; omega)) HCC.out (HI.out _ _ HIw.out H.out.2.2.2.2.2) (fun U U' h kk => HI.out U U' h (kk.below H.out.2.2.2.2.2.size (fun k hk e => by omega)))
          rw [H.out.2.2.1] at c
          have HC := hide c
          clear c
          go_wp2_with fail
          refine HC.out.mono ?_
          rintro e w1 ⟨rfl, k1, k2⟩
          have H2 : Hid (ItRow w1 b (runs f s ys) ∧ ItRow w1 a ys ∧ (runs f s ys).length = xs.length ∧ ys.length = xs.length ∧ srt f (s * 2) (runs f s ys) = srt f 1 xs ∧ Below w.heap.size w w1) := hide ⟨k1, H.out.1.keep (k2.block _ H.out.1.lt hab), by rw [runs_len, H.out.2.2.1], H.out.2.2.1, by rw [← H.out.2.2.2.2.1, srt_step f (s := s) (by rw [H.out.2.2.1]; exact hsl) hs0], H.out.2.2.2.2.2.trans (k2.below (B := w.heap.size) H.out.2.2.2.2.2.size (fun k hk e => by omega))⟩
          clear k1 k2 HC H
          go_wp2
          go_roundw
          case rel => exact ⟨b, a, s * 2, _, _, rfl, rfl, by simp, fun e => hab e.symm, hb, ha, by omega, by omega, H2⟩
          case measure => simp [intOf]; omega
        · have q1 : ¬ (s : Int) < (xs.length : Int) := by omega
          go_wp2
          go_ret
          refine ⟨⟨_, rfl, .inr ⟨a, ?_, ha, ?_, ?_⟩⟩, H.out.2.2.2.2.2⟩
          · rw [srt_len]; rfl
          · rw [← H.out.2.2.2.2.1, srt_end f (by rw [H.out.2.2.1]; exact hsl)]; exact H.out.1
          · rw [srt_len]; unfold maxLen; omega

end Go.Proofs.Ytomieeajmelglaa
