import Derived.Test.YticmlelalbaalaaGreatDoorB20
import Derived.Laws.CopyOwn
namespace Go.Proofs.YticmlelalbaalaaGreatDoor
open Go.RowKit Go.Shelf
set_option linter.unusedVariables false
set_option linter.unusedSimpArgs false
def srt {α : Type} (f : α → α → Int) (s : Nat) (xs : List α) : List α :=
  if h : s < xs.length ∧ 0 < s then srt f (s * 2) (runs f s xs) else xs
termination_by xs.length - s
decreasing_by rw [runs_len]; omega
theorem srt_step {α : Type} (f : α → α → Int) {s : Nat} {xs : List α} (h : s < xs.length) (h0 : 0 < s) : srt f s xs = srt f (s * 2) (runs f s xs) := by rw [srt, dif_pos ⟨h, h0⟩]
theorem srt_end {α : Type} (f : α → α → Int) {s : Nat} {xs : List α} (h : ¬ s < xs.length) : srt f s xs = xs := by rw [srt, dif_neg (fun e => h e.1)]
theorem srt_len {α : Type} (f : α → α → Int) (s : Nat) (xs : List α) : (srt f s xs).length = xs.length := by
  fun_induction srt f s xs with
  | case1 s xs h ih => rw [ih, runs_len]
  | case2 s xs h => rfl
theorem mrg_mem {α : Type} (f : α → α → Int) (xs ys : List α) : ∀ x ∈ mrg f xs ys, x ∈ xs ∨ x ∈ ys := by
  fun_induction mrg f xs ys with
  | case1 ys => intro x hx; exact .inr hx
  | case2 x xs => intro y hy; exact .inl hy
  | case3 x xs y ys h ih =>
    intro z hz
    rcases List.mem_cons.1 hz with rfl | hz
    · exact .inr List.mem_cons_self
    · exact (ih z hz).imp_right (List.mem_cons_of_mem _)
  | case4 x xs y ys h ih =>
    intro z hz
    rcases List.mem_cons.1 hz with rfl | hz
    · exact .inl List.mem_cons_self
    · exact (ih z hz).imp_left (List.mem_cons_of_mem _)
theorem runs_mem {α : Type} (f : α → α → Int) (s : Nat) (xs : List α) : ∀ x ∈ runs f s xs, x ∈ xs := by
  fun_induction runs f s xs with
  | case1 xs h => intro x hx; exact hx
  | case2 xs h ih =>
    intro x hx
    rcases List.mem_append.1 hx with hx | hx
    · rcases mrg_mem f _ _ x hx with hx | hx
      · exact List.mem_of_mem_take hx
      · exact List.mem_of_mem_drop (List.mem_of_mem_take hx)
    · exact List.mem_of_mem_drop (ih x hx)
theorem srt_mem {α : Type} (f : α → α → Int) (s : Nat) (xs : List α) : ∀ x ∈ srt f s xs, x ∈ xs := by
  fun_induction srt f s xs with
  | case1 s xs h ih => intro x hx; exact runs_mem f s xs x (ih x hx)
  | case2 s xs h => intro x hx; exact hx
def OwnEn (B : Nat) (w : World) (v : Value) (xs : List En) : Prop := (xs = [] ∧ v = .slice none 0 0) ∨ ∃ g, v = .slice (some ⟨g, 0, none⟩) xs.length xs.length ∧ B ≤ g ∧ EnRow w g xs ∧ xs.length ≤ maxLen
theorem OwnEn.rd {B : Nat} {w : World} {v : Value} {xs : List En} (h : OwnEn B w v xs) : EnRd (fun g => B ≤ g) w v xs := by
  rcases h with ⟨rfl, rfl⟩ | ⟨g, rfl, h1, h2, h3⟩
  · exact ⟨none, 0, rfl, Nat.le_refl _, by unfold maxLen; omega, fun h => absurd h (by simp)⟩
  · exact h2.rd h1 (Nat.le_refl _) h3
set_option maxRecDepth 100000 in
theorem eninfoM : (Tryz.prog.info? 112).map (fun i => (i.zero, i.size, i.bytes)) = some (some (.agg #[.int .i8 0, .int .u64 0, .bool false, .slice none 0 0, .int .u64 0, .int .i8 0, .string ⟨#[]⟩, .slice none 0 0, .int .i8 0, .int .u64 0, .bool false, .slice none 0 0, .int .u64 0, .int .i8 0, .string ⟨#[]⟩, .slice none 0 0, .int .i64 0]), 17, 216) := by kernel_rfl
set_option maxRecDepth 100000 in
theorem endesc : ∃ a b c, Tryz.prog.underlying 114 = some (.func a b c) := ⟨#[112, 112], #[3], false, by kernel_rfl⟩
set_option maxRecDepth 100000 in
theorem eninfoC : (Tryz.prog.info? 112).map (·.size) = some 17 := by kernel_rfl
theorem made_ents (n : Nat) : madeCells #[.int .i8 0, .int .u64 0, .bool false, .slice none 0 0, .int .u64 0, .int .i8 0, .string ⟨#[]⟩, .slice none 0 0, .int .i8 0, .int .u64 0, .bool false, .slice none 0 0, .int .u64 0, .int .i8 0, .string ⟨#[]⟩, .slice none 0 0, .int .i64 0] (n * 17) = (flatE (List.replicate n enZ)).toArray := by
  apply Array.ext
  · simp [madeCells, flatE_len]
  · intro i h1 h2
    simp only [madeCells, Array.getElem_map, Array.getElem_range]
    have hn : i < n * 17 := by simpa [madeCells] using h1
    have e : i = i / 17 * 17 + i % 17 := by omega
    have hi : i / 17 < (List.replicate n enZ).length := by simp; omega
    have g := flatE_get (List.replicate n enZ) (i / 17) hi (i % 17) (by omega)
    rw [← e] at g
    have g2 : (flatE (List.replicate n enZ)).toArray[i]'h2 = (flatE (List.replicate n enZ))[i]'(by simpa using h2) := by simp
    rw [g2]
    rw [List.getElem?_eq_getElem (by simpa using h2)] at g
    simp only [List.getElem_replicate] at g
    have k : i % 17 < 17 := by omega
    generalize i % 17 = r at g k
    match r, k with
    | 0, _ => simpa [enL, enZ, Cl.L] using g.symm
    | 1, _ => simpa [enL, enZ, Cl.L] using g.symm
    | 2, _ => simpa [enL, enZ, Cl.L] using g.symm
    | 3, _ => simpa [enL, enZ, Cl.L] using g.symm
    | 4, _ => simpa [enL, enZ, Cl.L] using g.symm
    | 5, _ => simpa [enL, enZ, Cl.L] using g.symm
    | 6, _ => simpa [enL, enZ, Cl.L] using g.symm
    | 7, _ => simpa [enL, enZ, Cl.L] using g.symm
    | 8, _ => simpa [enL, enZ, Cl.L] using g.symm
    | 9, _ => simpa [enL, enZ, Cl.L] using g.symm
    | 10, _ => simpa [enL, enZ, Cl.L] using g.symm
    | 11, _ => simpa [enL, enZ, Cl.L] using g.symm
    | 12, _ => simpa [enL, enZ, Cl.L] using g.symm
    | 13, _ => simpa [enL, enZ, Cl.L] using g.symm
    | 14, _ => simpa [enL, enZ, Cl.L] using g.symm
    | 15, _ => simpa [enL, enZ, Cl.L] using g.symm
    | 16, _ => simpa [enL, enZ, Cl.L] using g.symm
theorem mk_ents {n : Nat} (hn : n ≤ 1048577) (w : World) : (Instr.makeSlice 107 (.int .i64 (n : Int)) (.int .i64 (n : Int))).run Tryz.prog w = .ok (.slice (some ⟨w.heap.size, 0, none⟩) n n) (w.alloc (.cells (flatE (List.replicate n enZ)).toArray 112)) := by
  obtain ⟨i0, hi, hz0, hz1, hz2⟩ := info_parts eninfoM
  have := run_make (P := Tryz.prog) w 107 112 i0 _ Tryz.underlying107 hi hz0 .i64 .i64 n n (by omega) (Int.le_refl _) (by rw [hz2]; omega) (by omega)
  rw [this, hz1]
  simp only [Int.toNat_natCast]
  rw [show (Value.agg #[.int .i8 0, .int .u64 0, .bool false, .slice none 0 0, .int .u64 0, .int .i8 0, .string ⟨#[]⟩, .slice none 0 0, .int .i8 0, .int .u64 0, .bool false, .slice none 0 0, .int .u64 0, .int .i8 0, .string ⟨#[]⟩, .slice none 0 0, .int .i64 0]).cells = #[.int .i8 0, .int .u64 0, .bool false, .slice none 0 0, .int .u64 0, .int .i8 0, .string ⟨#[]⟩, .slice none 0 0, .int .i8 0, .int .u64 0, .bool false, .slice none 0 0, .int .u64 0, .int .i8 0, .string ⟨#[]⟩, .slice none 0 0, .int .i64 0] from rfl, made_ents]
theorem ofunc_nil {t : TypeId} (h : ∃ a b c, Tryz.prog.underlying t = some (.func a b c)) (w : World) (f : Fn) (a c : Array Value) : (binOp .eql t (.func f a c) .nilFunc).run Tryz.prog w = .ok (.bool false) w := by
  obtain ⟨x, y, z, h⟩ := h
  have e : (Op.equalIn (Op.maxDepth - 1 + 1) t (.func f a c) .nilFunc).run Tryz.prog w = .ok false w := by simp [Op.equalIn, run_underlying h]
  rw [show Op.maxDepth - 1 + 1 = Op.maxDepth from rfl] at e
  simp [binOp, Op.equal, e]
theorem flatE_one (xs : List En) : ∀ v ∈ flatE xs, v.oneCell' = true := by
  intro v hv
  simp only [flatE, List.mem_flatMap] at hv
  obtain ⟨x, _, hv⟩ := hv
  exact enL_one x v hv
theorem run_copy_items (w : World) (ty : TypeId) (g o dLen dCap : Nat) (a : Addr) (sLen sCap : Nat) (cur : Array Value) (t : TypeId) (cs : List Value) (hg : w.heap[g]? = some (.cells cur t (0, 0))) (hn : cs.length = Nat.min sLen dLen * 17)
    (hsrc : ∀ j v, cs[j]? = some v → w.cell? (a.add j) = some v) (hfit : o + cs.length ≤ cur.size) (h1 : ∀ v ∈ cs, v.oneCell' = true) :
    (Builtin.copy_ #[107, 107] ty #[.slice (some ⟨g, o, none⟩) dLen dCap, .slice (some a) sLen sCap]).run Tryz.prog w = .ok (goInt (Nat.min sLen dLen)) (w.setRow g (cur.toList.take o ++ cs ++ cur.toList.drop (o + cs.length)).toArray) := by
  have hl := run_loadCells_list (P := Tryz.prog) w a cs hsrc
  have hst := run_storeCells_at Tryz.prog g o t cs 0 cur w hg (by simpa using hfit) h1
  have hs := eninfoC
  cases hq : Tryz.prog.info? 112 with
  | none => simp [hq] at hs
  | some i =>
    have hi : i.size = 17 := by simpa [hq] using hs
    simp [Builtin.copy_, run_underlying Tryz.underlying107, Builtin.lenOf, Builtin.firstCells, sizeOf, typeInfo, hq, hi, ← hn, hl, hst]
theorem encopy_new {w W : World} {g : Nat} {ao : Option Addr} {ca : Nat} {xs zs : List En} (hB : Below w.heap.size w W) (hr : EnRow W g zs) (hz : zs.length = xs.length) (ha : EnRd (fun _ => True) w (.slice ao xs.length ca) xs) (hg : w.heap.size ≤ g) (h0 : 0 < xs.length) :
    ∃ W3, (Builtin.copy_ #[107, 107] 3 #[.slice (some ⟨g, 0, none⟩) xs.length xs.length, .slice ao xs.length ca]).run Tryz.prog W = .ok (.int .i64 xs.length) W3 ∧ EnRow W3 g xs ∧ W.grownBy W3 (some g) := by
  obtain ⟨ao', cap, e, h1, h2, h3⟩ := ha
  obtain ⟨_, _⟩ : ao = ao' ∧ ca = cap := by injection e; exact ⟨by assumption, by assumption⟩
  subst ao' cap
  obtain ⟨b, off, rfl, _, hb, hi⟩ := h3 h0
  have hrun := run_copy_items W 3 g 0 xs.length xs.length ⟨b, off, none⟩ xs.length ca _ 112 (flatE xs) hr (by rw [flatE_len, show Nat.min xs.length xs.length = xs.length from Nat.min_self _]) ?_ (by simp [flatE_len, hz]) (flatE_one xs)
  · refine ⟨_, hrun.trans (by rw [show Nat.min xs.length xs.length = xs.length from Nat.min_self _]; rfl), ?_, ?_⟩
    · unfold EnRow
      rw [setRow_heap _ _ _ _ _ _ hr]
      have : (flatE zs).drop (flatE xs).length = [] := List.drop_eq_nil_of_le (by rw [flatE_len, flatE_len, hz]; exact Nat.le_refl _)
      simp [this]
    · exact ⟨rfl, rfl, rfl, by simp [World.setRow], fun k _ hk => setRow_other W g k _ (fun e => hk (by rw [e]))⟩
  · intro j v hj
    have hjl : j < (flatE xs).length := (List.getElem?_eq_some_iff.1 hj).1
    rw [flatE_len] at hjl
    have q := hi (j / 17) (by omega)
    have e : j = j / 17 * 17 + j % 17 := by omega
    have fg := flatE_get xs (j / 17) (by omega) (j % 17) (by omega)
    rw [← e, hj] at fg
    rw [Addr.add_lit, show off + j = off + j / 17 * 17 + j % 17 by omega]
    exact (hB.cell (p := ⟨b, _, none⟩) hb).trans (q (j % 17) v fg.symm)
set_option maxRecDepth 100000 in
set_option maxHeartbeats 8000000 in
theorem ensort_any {w : World} {va cv : Value} {xs : List En} {I : World → Prop} {f : En → En → Int} (hx : xs.length ≤ 1048577) (ha : EnRd (fun _ => True) w va xs) {Pd : En → Prop} (hc : CmpIsE I cv Pd f) (hpd : ∀ x ∈ xs, Pd x) (hIw : I w) (hI : ∀ W W', I W → Below w.heap.size W W' → I W') :
    Calls Tryz.prog 73 #[va, cv] w fun e w' => (∃ v, e = .returned v ∧ OwnEn w.heap.size w' v (srt f 1 xs)) ∧ Below w.heap.size w w' := by
  have hcc := hc
  obtain ⟨cg, cl, rfl, eg, hcall⟩ := hc.val
  have haa := ha
  obtain ⟨ao, ca, rfl, hac, ham, hacl⟩ := ha
  have HPD := hide hpd
  clear hpd
  have HA := hide haa
  have HCC := hide hcc
  have HIw := hide hIw
  have HI := hide hI
  have HACL := hide hacl
  unfold maxLen at ham
  clear hcc hc hcall haa hacl hIw hI
  have hfn : ∀ (w : World) f a c, (binOp .eql 114 (.func f a c) .nilFunc).run Tryz.prog w = .ok (.bool false) w := ofunc_nil endesc
  have mk := mk_ents (n := xs.length) hx
  by_cases h0 : xs.length = 0
  · have q0 : ((xs.length : Int) == 0) = true := by rw [h0]; rfl
    go_enter Tryz.func73, Tryz.ntmps73
    go_wp2
    go_ret
    exact ⟨⟨_, rfl, .inl ⟨List.eq_nil_of_length_eq_zero (by rw [srt_len, h0]), rfl⟩⟩, Below.refl _ _⟩
  · have q0 : ((xs.length : Int) == 0) = false := by rw [beq_eq_false_iff_ne]; omega
    go_enter Tryz.func73, Tryz.ntmps73
    go_wp2
    go_region
    · skip
      obtain ⟨W2, hW2⟩ : ∃ u, ((w.alloc (.cells (flatE (List.replicate xs.length enZ)).toArray 112)).alloc (.cells (flatE (List.replicate xs.length enZ)).toArray 112)).drew = u := ⟨_, rfl⟩
      have r1 : EnRow W2 w.heap.size (List.replicate xs.length enZ) := by rw [← hW2]; exact (Below.heap_alloc (w.alloc (.cells (flatE (List.replicate xs.length enZ)).toArray 112)) _ w.heap.size (by simp)).trans (heap_alloc_new w _)
      have r2 : EnRow W2 (w.heap.size + 1) (List.replicate xs.length enZ) := by
        rw [← hW2]
        have := heap_alloc_new (w.alloc (.cells (flatE (List.replicate xs.length enZ)).toArray 112)) (.cells (flatE (List.replicate xs.length enZ)).toArray 112)
        rw [World.size_alloc] at this
        exact this
      have hB2 : Below w.heap.size w W2 := by rw [← hW2]; exact (((Below.refl _ w).alloc (Nat.le_refl _) _).alloc (by simp) _).drew
      rw [hW2]
      clear hW2 mk
      obtain ⟨W3, hcp, r3, hg3⟩ := encopy_new (g := w.heap.size) (w := w) hB2 r1 (by simp) HA.out (by omega) (by omega)
      have r4 : EnRow W3 (w.heap.size + 1) (List.replicate xs.length enZ) := r2.keep (hg3.block _ r2.lt (by simp))
      have hB3 : Below w.heap.size w W3 := hB2.grown hg3 hB2.size (fun k e => by cases e; omega)
      have R3 := hide r3
      have R4 := hide r4
      have HB3 := hide hB3
      clear r1 r2 r3 r4 hB2 hB3 hg3
      go_wp2
      go_loopw [5, 6, 7] (fun fv iv sv wr => ∃ (a b s : Nat) (ys zs : List En), fv = .slice (some ⟨a, 0, none⟩) xs.length xs.length ∧ iv = .slice (some ⟨b, 0, none⟩) xs.length xs.length ∧ sv = .int .i64 s ∧ a ≠ b ∧ w.heap.size ≤ a ∧ w.heap.size ≤ b ∧ 0 < s ∧ s ≤ 17592186044416 ∧ Hid (EnRow wr a ys ∧ EnRow wr b zs ∧ ys.length = xs.length ∧ zs.length = xs.length ∧ srt f s ys = srt f 1 xs ∧ Below w.heap.size w wr ∧ ∀ x ∈ ys, Pd x)) (fun _ _ sv _ => xs.length - (intOf sv).toNat)
      case atStart => exact ⟨w.heap.size, w.heap.size + 1, 1, xs, _, rfl, rfl, rfl, by omega, by omega, by omega, by omega, by omega, hide ⟨R3.out, R4.out, rfl, by simp, rfl, HB3.out, HPD.out⟩⟩
      case round =>
        obtain ⟨a, b, s, ys, zs, rfl, rfl, rfl, hab, ha, hb, hs0, hs1, H⟩ := hrel
        clear R3 R4 HB3
        by_cases hsl : s < xs.length
        · have q1 : (s : Int) < (xs.length : Int) := by omega
          have c := enruns_any (w := wr) (gi := b) (ci := xs.length) (s := s) (xs := ys) (ws := zs) (I := I) (f := f) hs0 (by omega) (by rw [H.out.2.2.1]; omega) H.out.2.1 (by rw [H.out.2.2.1, H.out.2.2.2.1]) (by rw [H.out.2.2.1]; exact Nat.le_refl _) (by unfold maxLen; omega) (H.out.1.rd hab (Nat.le_refl _) (by rw [H.out.2.2.1]; unfold maxLen; omega)) HCC.out H.out.2.2.2.2.2.2 (HI.out _ _ HIw.out H.out.2.2.2.2.2.1) (fun U U' h kk => HI.out U U' h (kk.below H.out.2.2.2.2.2.1.size (fun k hk e => by omega)))
          rw [H.out.2.2.1] at c
          have HC := hide c
          clear c
          go_wp2_with fail
          refine HC.out.mono ?_
          rintro e w1 ⟨rfl, k1, k2⟩
          have H2 : Hid (EnRow w1 b (runs f s ys) ∧ EnRow w1 a ys ∧ (runs f s ys).length = xs.length ∧ ys.length = xs.length ∧ srt f (s * 2) (runs f s ys) = srt f 1 xs ∧ Below w.heap.size w w1 ∧ ∀ x ∈ runs f s ys, Pd x) := hide ⟨k1, H.out.1.keep (k2.block _ H.out.1.lt hab), by rw [runs_len, H.out.2.2.1], H.out.2.2.1, by rw [← H.out.2.2.2.2.1, srt_step f (s := s) (by rw [H.out.2.2.1]; exact hsl) hs0], H.out.2.2.2.2.2.1.trans (k2.below (B := w.heap.size) H.out.2.2.2.2.2.1.size (fun k hk e => by omega)), fun x hx => H.out.2.2.2.2.2.2 x (runs_mem f s ys x hx)⟩
          clear k1 k2 HC H
          go_wp2
          go_roundw
          case rel => exact ⟨b, a, s * 2, _, _, rfl, rfl, by simp, fun e => hab e.symm, hb, ha, by omega, by omega, H2⟩
          case measure => simp [intOf]; omega
        · have q1 : ¬ (s : Int) < (xs.length : Int) := by omega
          go_wp2
          go_ret
          refine ⟨⟨_, rfl, .inr ⟨a, ?_, ha, ?_, ?_⟩⟩, H.out.2.2.2.2.2.1⟩
          · rw [srt_len]; rfl
          · rw [← H.out.2.2.2.2.1, srt_end f (by rw [H.out.2.2.1]; exact hsl)]; exact H.out.1
          · rw [srt_len]; unfold maxLen; omega
    · skip
      obtain ⟨W2, hW2⟩ : ∃ u, ((w.alloc (.cells (flatE (List.replicate xs.length enZ)).toArray 112)).alloc (.cells (flatE (List.replicate xs.length enZ)).toArray 112)).drew = u := ⟨_, rfl⟩
      have r1 : EnRow W2 w.heap.size (List.replicate xs.length enZ) := by rw [← hW2]; exact (Below.heap_alloc (w.alloc (.cells (flatE (List.replicate xs.length enZ)).toArray 112)) _ w.heap.size (by simp)).trans (heap_alloc_new w _)
      have r2 : EnRow W2 (w.heap.size + 1) (List.replicate xs.length enZ) := by
        rw [← hW2]
        have := heap_alloc_new (w.alloc (.cells (flatE (List.replicate xs.length enZ)).toArray 112)) (.cells (flatE (List.replicate xs.length enZ)).toArray 112)
        rw [World.size_alloc] at this
        exact this
      have hB2 : Below w.heap.size w W2 := by rw [← hW2]; exact (((Below.refl _ w).alloc (Nat.le_refl _) _).alloc (by simp) _).drew
      rw [hW2]
      clear hW2 mk
      obtain ⟨W3, hcp, r3, hg3⟩ := encopy_new (g := w.heap.size + 1) (w := w) hB2 r2 (by simp) HA.out (by omega) (by omega)
      have r4 : EnRow W3 (w.heap.size) (List.replicate xs.length enZ) := r1.keep (hg3.block _ r1.lt (by simp))
      have hB3 : Below w.heap.size w W3 := hB2.grown hg3 hB2.size (fun k e => by cases e; omega)
      have R3 := hide r3
      have R4 := hide r4
      have HB3 := hide hB3
      clear r1 r2 r3 r4 hB2 hB3 hg3
      go_wp2
      go_loopw [5, 6, 7] (fun fv iv sv wr => ∃ (a b s : Nat) (ys zs : List En), fv = .slice (some ⟨a, 0, none⟩) xs.length xs.length ∧ iv = .slice (some ⟨b, 0, none⟩) xs.length xs.length ∧ sv = .int .i64 s ∧ a ≠ b ∧ w.heap.size ≤ a ∧ w.heap.size ≤ b ∧ 0 < s ∧ s ≤ 17592186044416 ∧ Hid (EnRow wr a ys ∧ EnRow wr b zs ∧ ys.length = xs.length ∧ zs.length = xs.length ∧ srt f s ys = srt f 1 xs ∧ Below w.heap.size w wr ∧ ∀ x ∈ ys, Pd x)) (fun _ _ sv _ => xs.length - (intOf sv).toNat)
      case atStart => exact ⟨w.heap.size + 1, w.heap.size, 1, xs, _, rfl, rfl, rfl, by omega, by omega, by omega, by omega, by omega, hide ⟨R3.out, R4.out, rfl, by simp, rfl, HB3.out, HPD.out⟩⟩
      case round =>
        obtain ⟨a, b, s, ys, zs, rfl, rfl, rfl, hab, ha, hb, hs0, hs1, H⟩ := hrel
        clear R3 R4 HB3
        by_cases hsl : s < xs.length
        · have q1 : (s : Int) < (xs.length : Int) := by omega
          have c := enruns_any (w := wr) (gi := b) (ci := xs.length) (s := s) (xs := ys) (ws := zs) (I := I) (f := f) hs0 (by omega) (by rw [H.out.2.2.1]; omega) H.out.2.1 (by rw [H.out.2.2.1, H.out.2.2.2.1]) (by rw [H.out.2.2.1]; exact Nat.le_refl _) (by unfold maxLen; omega) (H.out.1.rd hab (Nat.le_refl _) (by rw [H.out.2.2.1]; unfold maxLen; omega)) HCC.out H.out.2.2.2.2.2.2 (HI.out _ _ HIw.out H.out.2.2.2.2.2.1) (fun U U' h kk => HI.out U U' h (kk.below H.out.2.2.2.2.2.1.size (fun k hk e => by omega)))
          rw [H.out.2.2.1] at c
          have HC := hide c
          clear c
          go_wp2_with fail
          refine HC.out.mono ?_
          rintro e w1 ⟨rfl, k1, k2⟩
          have H2 : Hid (EnRow w1 b (runs f s ys) ∧ EnRow w1 a ys ∧ (runs f s ys).length = xs.length ∧ ys.length = xs.length ∧ srt f (s * 2) (runs f s ys) = srt f 1 xs ∧ Below w.heap.size w w1 ∧ ∀ x ∈ runs f s ys, Pd x) := hide ⟨k1, H.out.1.keep (k2.block _ H.out.1.lt hab), by rw [runs_len, H.out.2.2.1], H.out.2.2.1, by rw [← H.out.2.2.2.2.1, srt_step f (s := s) (by rw [H.out.2.2.1]; exact hsl) hs0], H.out.2.2.2.2.2.1.trans (k2.below (B := w.heap.size) H.out.2.2.2.2.2.1.size (fun k hk e => by omega)), fun x hx => H.out.2.2.2.2.2.2 x (runs_mem f s ys x hx)⟩
          clear k1 k2 HC H
          go_wp2
          go_roundw
          case rel => exact ⟨b, a, s * 2, _, _, rfl, rfl, by simp, fun e => hab e.symm, hb, ha, by omega, by omega, H2⟩
          case measure => simp [intOf]; omega
        · have q1 : ¬ (s : Int) < (xs.length : Int) := by omega
          go_wp2
          go_ret
          refine ⟨⟨_, rfl, .inr ⟨a, ?_, ha, ?_, ?_⟩⟩, H.out.2.2.2.2.2.1⟩
          · rw [srt_len]; rfl
          · rw [← H.out.2.2.2.2.1, srt_end f (by rw [H.out.2.2.1]; exact hsl)]; exact H.out.1
          · rw [srt_len]; unfold maxLen; omega
end Go.Proofs.YticmlelalbaalaaGreatDoor
