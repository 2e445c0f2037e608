/- Sort (nt) -/
import Derived.Test.YtomieeajmelglaaORunsN
import Derived.Laws.CopyOwn
import Derived.Test.YtomieeajmelglaaOSort
namespace Go.Proofs.Ytomieeajmelglaa
open Go.RowKit Go.Shelf
set_option linter.unusedVariables false

theorem mem_mrg {α : Type} {f : α → α → Int} {xs ys : List α} {x : α} : x ∈ mrg f xs ys ↔ x ∈ xs ∨ x ∈ ys := by
  fun_induction mrg f xs ys with
  | case1 ys => simp
  | case2 x xs => simp
  | case3 x xs y ys h ih => simp [ih]; grind
  | case4 x xs y ys h ih => simp [ih]; grind
theorem mem_runs {α : Type} {f : α → α → Int} {s : Nat} {xs : List α} {x : α} : x ∈ runs f s xs ↔ x ∈ xs := by
  fun_induction runs f s xs with
  | case1 xs h => rfl
  | case2 xs h ih =>
    rw [List.mem_append, ih, mem_mrg]
    have e : xs = xs.take s ++ ((xs.drop s).take s ++ xs.drop (2 * s)) := by
      rw [show 2 * s = s + s by omega, ← List.drop_drop, List.take_append_drop, List.take_append_drop]
    conv => rhs; rw [e]
    simp only [List.mem_append]
    grind
theorem mem_srt {α : Type} {f : α → α → Int} {s : Nat} {xs : List α} {x : α} : x ∈ srt f s xs ↔ x ∈ xs := by
  fun_induction srt f s xs with
  | case1 s xs h ih => rw [ih, mem_runs]
  | case2 s xs h => rfl
def Own12N (B : Nat) (w : World) (v : Value) (xs : List Int) : Prop := (xs = [] ∧ v = .slice none 0 0) ∨ ∃ g, v = .slice (some ⟨g, 0, none⟩) xs.length xs.length ∧ B ≤ g ∧ NtRow w g xs ∧ xs.length ≤ maxLen
theorem Own12N.rd {B : Nat} {w : World} {v : Value} {xs : List Int} (h : Own12N B w v xs) : NtRd (fun g => B ≤ g) w v xs := by
  rcases h with ⟨rfl, rfl⟩ | ⟨g, rfl, h1, h2, h3⟩
  · exact ⟨none, 0, rfl, Nat.le_refl _, by unfold maxLen; omega, fun h => absurd h (by simp)⟩
  · exact h2.rd h1 (Nat.le_refl _) h3
theorem ntinfoM : (Try.prog.info? 3).map (fun i => (i.zero, i.size, i.bytes)) = some (some (.int .i64 0), 1, 8) := by kernel_rfl
theorem ntdesc : ∃ a b c, Try.prog.underlying 60 = some (.func a b c) := ⟨#[3, 3], #[3], false, by kernel_rfl⟩
theorem mk_ints {n : Nat} (hn : n ≤ 8796093022208) (w : World) : (Instr.makeSlice 61 (.int .i64 (n : Int)) (.int .i64 (n : Int))).run Try.prog w = .ok (.slice (some ⟨w.heap.size, 0, none⟩) n n) (w.alloc (.cells (flatN (List.replicate n 0)).toArray 3)) := by
  obtain ⟨i0, hi, hz0, hz1, hz2⟩ := info_parts ntinfoM
  have := run_make (P := Try.prog) w 61 3 i0 _ Try.underlying61 hi hz0 .i64 .i64 n n (by omega) (Int.le_refl _) (by rw [hz2]; omega) (by omega)
  rw [this, hz1]
  simp only [Int.toNat_natCast, Nat.mul_one]
  rw [show (Value.int .i64 0).cells = #[Value.int .i64 0] from rfl, replicate_map]
  rfl
set_option maxRecDepth 100000 in
theorem ntinfoC : (Try.prog.info? 3).map (·.size) = some 1 := by kernel_rfl
theorem ntcopy_new {w W : World} {g : Nat} {ao : Option Addr} {ca : Nat} {xs zs : List Int} (hB : Below w.heap.size w W) (hr : NtRow W g zs) (hz : zs.length = xs.length) (ha : NtRd (fun _ => True) w (.slice ao xs.length ca) xs) (hg : w.heap.size ≤ g) (h0 : 0 < xs.length) :
    ∃ W3, (Builtin.copy_ #[61, 61] 3 #[.slice (some ⟨g, 0, none⟩) xs.length xs.length, .slice ao xs.length ca]).run Try.prog W = .ok (.int .i64 xs.length) W3 ∧ NtRow W3 g xs ∧ W.grownBy W3 (some g) := by
  obtain ⟨ao', cap, e, h1, h2, h3⟩ := ha
  obtain ⟨_, _⟩ : ao = ao' ∧ ca = cap := by injection e; exact ⟨by assumption, by assumption⟩
  subst ao' cap
  obtain ⟨b, off, rfl, _, hb, hi⟩ := h3 h0
  have hrun := run_copy_row (P := Try.prog) W 61 61 3 3 g 0 xs.length xs.length ⟨b, off, none⟩ xs.length ca _ 3 (flatN xs) Try.underlying61 ntinfoC hr (by rw [flatN_len, show Nat.min xs.length xs.length = xs.length from Nat.min_self _]) ?_ (by simp [flatN_len, hz]) (fun v hv => by simp only [flatN, List.mem_map] at hv; obtain ⟨x, _, rfl⟩ := hv; rfl)
  · refine ⟨_, hrun.trans (by rw [flatN_len]; rfl), ?_, ?_⟩
    · unfold NtRow
      rw [setRow_heap _ _ _ _ _ _ hr]
      have : (flatN zs).drop xs.length = [] := List.drop_eq_nil_of_le (by rw [flatN_len, hz]; exact Nat.le_refl _)
      rw [List.toList_toArray, Nat.zero_add, this]
      simp
    · exact ⟨rfl, rfl, rfl, by simp [World.setRow], fun k _ hk => setRow_other W g k _ (fun e => hk (by rw [e]))⟩
  · intro j v hj
    have hjl : j < (flatN xs).length := (List.getElem?_eq_some_iff.1 hj).1
    rw [flatN_len] at hjl
    rw [Addr.add_lit]
    have q := hi j hjl
    simp only [flatN, List.getElem?_map, List.getElem?_eq_getElem hjl, Option.map_some] at hj
    rw [← hj]
    exact (hB.cell (p := ⟨b, _, none⟩) hb).trans q
set_option maxRecDepth 100000 in
set_option maxHeartbeats 8000000 in
theorem ntsort_any {w : World} {m : Nat} {va cv : Value} {xs : List Int} {I : World → Prop} {f : Int → Int → Int} (hx : xs.length ≤ 8796093022208) (ha : NtRd (fun _ => True) w va xs) (hc : CmpIsN I cv m f) (hxm : ∀ x ∈ xs, 0 ≤ x ∧ x < (m : Int)) (hIw : I w) (hI : ∀ W W', I W → Below w.heap.size W W' → I W') :
    Calls Try.prog 44 #[va, cv] w fun e w' => (∃ v, e = .returned v ∧ Own12N w.heap.size w' v (srt f 1 xs)) ∧ Below w.heap.size w w' := by
  have hcc := hc
  obtain ⟨cg, cl, rfl, eg, hcall⟩ := hc.val
  have haa := ha
  obtain ⟨ao, ca, rfl, hac, ham, hacl⟩ := ha
  have HA := hide haa
  have HCC := hide hcc
  have HIw := hide hIw
  have HI := hide hI
  have HACL := hide hacl
  unfold maxLen at ham
  clear hcc hc hcall haa hacl hIw hI
  have HXM := hide hxm
  clear hxm
  have hfn : ∀ (w : World) f a c, (binOp .eql 60 (.func f a c) .nilFunc).run Try.prog w = .ok (.bool false) w := ofunc_nil ntdesc
  have mk := mk_ints (n := xs.length) hx
  by_cases h0 : xs.length = 0
  · have q0 : ((xs.length : Int) == 0) = true := by rw [h0]; rfl
    go_enter Try.func44, Try.ntmps44
    go_wp2
    go_ret
    exact ⟨⟨_, rfl, .inl ⟨List.eq_nil_of_length_eq_zero (by rw [srt_len, h0]), rfl⟩⟩, Below.refl _ _⟩
  · have q0 : ((xs.length : Int) == 0) = false := by rw [beq_eq_false_iff_ne]; omega
    go_enter Try.func44, Try.ntmps44
    go_wp2
    go_region
    · skip
      obtain ⟨W2, hW2⟩ : ∃ u, ((w.alloc (.cells (flatN (List.replicate xs.length (0 : Int))).toArray 3)).alloc (.cells (flatN (List.replicate xs.length (0 : Int))).toArray 3)).drew = u := ⟨_, rfl⟩
      have r1 : NtRow W2 w.heap.size (List.replicate xs.length (0 : Int)) := by rw [← hW2]; exact (Below.heap_alloc (w.alloc (.cells (flatN (List.replicate xs.length (0 : Int))).toArray 3)) _ w.heap.size (by simp)).trans (heap_alloc_new w _)
      have r2 : NtRow W2 (w.heap.size + 1) (List.replicate xs.length (0 : Int)) := by
        rw [← hW2]
        have := heap_alloc_new (w.alloc (.cells (flatN (List.replicate xs.length (0 : Int))).toArray 3)) (.cells (flatN (List.replicate xs.length (0 : Int))).toArray 3)
        rw [World.size_alloc] at this
        exact this
      have hB2 : Below w.heap.size w W2 := by rw [← hW2]; exact (((Below.refl _ w).alloc (Nat.le_refl _) _).alloc (by simp) _).drew
      rw [hW2]
      clear hW2 mk
      obtain ⟨W3, hcp, r3, hg3⟩ := ntcopy_new (g := w.heap.size) (w := w) hB2 r1 (by simp) HA.out (by omega) (by omega)
      have r4 : NtRow W3 (w.heap.size + 1) (List.replicate xs.length (0 : Int)) := r2.keep (hg3.block _ r2.lt (by simp))
      have hB3 : Below w.heap.size w W3 := hB2.grown hg3 hB2.size (fun k e => by cases e; omega)
      have R3 := hide r3
      have R4 := hide r4
      have HB3 := hide hB3
      clear r1 r2 r3 r4 hB2 hB3 hg3
      go_wp2
      go_loopw [5, 6, 7] (fun fv iv sv wr => ∃ (a b s : Nat) (ys zs : List Int), fv = .slice (some ⟨a, 0, none⟩) xs.length xs.length ∧ iv = .slice (some ⟨b, 0, none⟩) xs.length xs.length ∧ sv = .int .i64 s ∧ a ≠ b ∧ w.heap.size ≤ a ∧ w.heap.size ≤ b ∧ 0 < s ∧ s ≤ 17592186044416 ∧ Hid (NtRow wr a ys ∧ NtRow wr b zs ∧ ys.length = xs.length ∧ zs.length = xs.length ∧ srt f s ys = srt f 1 xs ∧ Below w.heap.size w wr ∧ ∀ x ∈ ys, x ∈ xs)) (fun _ _ sv _ => xs.length - (intOf sv).toNat)
      case atStart => exact ⟨w.heap.size, w.heap.size + 1, 1, xs, _, rfl, rfl, rfl, by omega, by omega, by omega, by omega, by omega, hide ⟨R3.out, R4.out, rfl, by simp, rfl, HB3.out, fun _ h => h⟩⟩
      case round =>
        obtain ⟨a, b, s, ys, zs, rfl, rfl, rfl, hab, ha, hb, hs0, hs1, H⟩ := hrel
        clear R3 R4 HB3
        by_cases hsl : s < xs.length
        · have q1 : (s : Int) < (xs.length : Int) := by omega
          have c := ntruns_any (w := wr) (gi := b) (ci := xs.length) (s := s) (xs := ys) (ws := zs) (I := I) (f := f) hs0 (by omega) (by rw [H.out.2.2.1]; omega) H.out.2.1 (by rw [H.out.2.2.1, H.out.2.2.2.1]) (by rw [H.out.2.2.1]; exact Nat.le_refl _) (by unfold maxLen; omega) (H.out.1.rd hab (Nat.le_refl _) (by rw [H.out.2.2.1]; unfold maxLen; omega)) HCC.out (fun x hx => HXM.out x (H.out.2.2.2.2.2.2 x hx)) (HI.out _ _ HIw.out H.out.2.2.2.2.2.1) (fun U U' h kk => HI.out U U' h (kk.below H.out.2.2.2.2.2.1.size (fun k hk e => by omega)))
          rw [H.out.2.2.1] at c
          have HC := hide c
          clear c
          go_wp2_with fail
          refine HC.out.mono ?_
          rintro e w1 ⟨rfl, k1, k2⟩
          have H2 : Hid (NtRow w1 b (runs f s ys) ∧ NtRow w1 a ys ∧ (runs f s ys).length = xs.length ∧ ys.length = xs.length ∧ srt f (s * 2) (runs f s ys) = srt f 1 xs ∧ Below w.heap.size w w1 ∧ ∀ x ∈ runs f s ys, x ∈ xs) := hide ⟨k1, H.out.1.keep (k2.block _ H.out.1.lt hab), by rw [runs_len, H.out.2.2.1], H.out.2.2.1, by rw [← H.out.2.2.2.2.1, srt_step f (s := s) (by rw [H.out.2.2.1]; exact hsl) hs0], H.out.2.2.2.2.2.1.trans (k2.below (B := w.heap.size) H.out.2.2.2.2.2.1.size (fun k hk e => by omega)), fun x hx => H.out.2.2.2.2.2.2 x (mem_runs.1 hx)⟩
          clear k1 k2 HC H
          go_wp2
          go_roundw
          case rel => exact ⟨b, a, s * 2, _, _, rfl, rfl, by simp, fun e => hab e.symm, hb, ha, by omega, by omega, H2⟩
          case measure => simp [intOf]; omega
        · have q1 : ¬ (s : Int) < (xs.length : Int) := by omega
          go_wp2
          go_ret
          refine ⟨⟨_, rfl, .inr ⟨a, ?_, ha, ?_, ?_⟩⟩, H.out.2.2.2.2.2.1⟩
          · rw [srt_len]; rfl
          · rw [← H.out.2.2.2.2.1, srt_end f (by rw [H.out.2.2.1]; exact hsl)]; exact H.out.1
          · rw [srt_len]; unfold maxLen; omega
    · skip
      obtain ⟨W2, hW2⟩ : ∃ u, ((w.alloc (.cells (flatN (List.replicate xs.length (0 : Int))).toArray 3)).alloc (.cells (flatN (List.replicate xs.length (0 : Int))).toArray 3)).drew = u := ⟨_, rfl⟩
      have r1 : NtRow W2 w.heap.size (List.replicate xs.length (0 : Int)) := by rw [← hW2]; exact (Below.heap_alloc (w.alloc (.cells (flatN (List.replicate xs.length (0 : Int))).toArray 3)) _ w.heap.size (by simp)).trans (heap_alloc_new w _)
      have r2 : NtRow W2 (w.heap.size + 1) (List.replicate xs.length (0 : Int)) := by
        rw [← hW2]
        have := heap_alloc_new (w.alloc (.cells (flatN (List.replicate xs.length (0 : Int))).toArray 3)) (.cells (flatN (List.replicate xs.length (0 : Int))).toArray 3)
        rw [World.size_alloc] at this
        exact this
      have hB2 : Below w.heap.size w W2 := by rw [← hW2]; exact (((Below.refl _ w).alloc (Nat.le_refl _) _).alloc (by simp) _).drew
      rw [hW2]
      clear hW2 mk
      obtain ⟨W3, hcp, r3, hg3⟩ := ntcopy_new (g := w.heap.size + 1) (w := w) hB2 r2 (by simp) HA.out (by omega) (by omega)
      have r4 : NtRow W3 (w.heap.size) (List.replicate xs.length (0 : Int)) := r1.keep (hg3.block _ r1.lt (by simp))
      have hB3 : Below w.heap.size w W3 := hB2.grown hg3 hB2.size (fun k e => by cases e; omega)
      have R3 := hide r3
      have R4 := hide r4
      have HB3 := hide hB3
      clear r1 r2 r3 r4 hB2 hB3 hg3
      go_wp2
      go_loopw [5, 6, 7] (fun fv iv sv wr => ∃ (a b s : Nat) (ys zs : List Int), fv = .slice (some ⟨a, 0, none⟩) xs.length xs.length ∧ iv = .slice (some ⟨b, 0, none⟩) xs.length xs.length ∧ sv = .int .i64 s ∧ a ≠ b ∧ w.heap.size ≤ a ∧ w.heap.size ≤ b ∧ 0 < s ∧ s ≤ 17592186044416 ∧ Hid (NtRow wr a ys ∧ NtRow wr b zs ∧ ys.length = xs.length ∧ zs.length = xs.length ∧ srt f s ys = srt f 1 xs ∧ Below w.heap.size w wr ∧ ∀ x ∈ ys, x ∈ xs)) (fun _ _ sv _ => xs.length - (intOf sv).toNat)
      case atStart => exact ⟨w.heap.size + 1, w.heap.size, 1, xs, _, rfl, rfl, rfl, by omega, by omega, by omega, by omega, by omega, hide ⟨R3.out, R4.out, rfl, by simp, rfl, HB3.out, fun _ h => h⟩⟩
      case round =>
        obtain ⟨a, b, s, ys, zs, rfl, rfl, rfl, hab, ha, hb, hs0, hs1, H⟩ := hrel
        clear R3 R4 HB3
        by_cases hsl : s < xs.length
        · have q1 : (s : Int) < (xs.length : Int) := by omega
          have c := ntruns_any (w := wr) (gi := b) (ci := xs.length) (s := s) (xs := ys) (ws := zs) (I := I) (f := f) hs0 (by omega) (by rw [H.out.2.2.1]; omega) H.out.2.1 (by rw [H.out.2.2.1, H.out.2.2.2.1]) (by rw [H.out.2.2.1]; exact Nat.le_refl _) (by unfold maxLen; omega) (H.out.1.rd hab (Nat.le_refl _) (by rw [H.out.2.2.1]; unfold maxLen; omega)) HCC.out (fun x hx => HXM.out x (H.out.2.2.2.2.2.2 x hx)) (HI.out _ _ HIw.out H.out.2.2.2.2.2.1) (fun U U' h kk => HI.out U U' h (kk.below H.out.2.2.2.2.2.1.size (fun k hk e => by omega)))
          rw [H.out.2.2.1] at c
          have HC := hide c
          clear c
          go_wp2_with fail
          refine HC.out.mono ?_
          rintro e w1 ⟨rfl, k1, k2⟩
          have H2 : Hid (NtRow w1 b (runs f s ys) ∧ NtRow w1 a ys ∧ (runs f s ys).length = xs.length ∧ ys.length = xs.length ∧ srt f (s * 2) (runs f s ys) = srt f 1 xs ∧ Below w.heap.size w w1 ∧ ∀ x ∈ runs f s ys, x ∈ xs) := hide ⟨k1, H.out.1.keep (k2.block _ H.out.1.lt hab), by rw [runs_len, H.out.2.2.1], H.out.2.2.1, by rw [← H.out.2.2.2.2.1, srt_step f (s := s) (by rw [H.out.2.2.1]; exact hsl) hs0], H.out.2.2.2.2.2.1.trans (k2.below (B := w.heap.size) H.out.2.2.2.2.2.1.size (fun k hk e => by omega)), fun x hx => H.out.2.2.2.2.2.2 x (mem_runs.1 hx)⟩
          clear k1 k2 HC H
          go_wp2
          go_roundw
          case rel => exact ⟨b, a, s * 2, _, _, rfl, rfl, by simp, fun e => hab e.symm, hb, ha, by omega, by omega, H2⟩
          case measure => simp [intOf]; omega
        · have q1 : ¬ (s : Int) < (xs.length : Int) := by omega
          go_wp2
          go_ret
          refine ⟨⟨_, rfl, .inr ⟨a, ?_, ha, ?_, ?_⟩⟩, H.out.2.2.2.2.2.1⟩
          · rw [srt_len]; rfl
          · rw [← H.out.2.2.2.2.1, srt_end f (by rw [H.out.2.2.1]; exact hsl)]; exact H.out.1
          · rw [srt_len]; unfold maxLen; omega

end Go.Proofs.Ytomieeajmelglaa
