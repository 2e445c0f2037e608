/- Twice -/
import Derived.Test.YtomieeajmelglaaOTwA
namespace Go.Proofs.Ytomieeajmelglaa
open Go.RowKit Go.Shelf
set_option linter.unusedVariables false
set_option linter.unusedSimpArgs false
attribute [local go_sem] Oper.semAt_some

def twS (ns : List Int) (acc : Int) (i : Nat) : Int := if acc < 0 ∨ ns[i]?.getD 0 < acc then ns[i]?.getD 0 else acc
def tw (f : It → It → Int) (l : List It) : Int := (reps (byNo f l) 0 (srt (byNo f l) 1 (upN l.length))).foldl (twS (srt (byNo f l) 1 (upN l.length))) (-1)
def OTI (Bf : Nat) (ns : List Int) (w8 : World) (pre : List (Pl ns.length)) (W : World) : Prop :=
  Boxed W Bf 3 (.int .i64 ((pre.map Subtype.val).foldl (twS ns) (-1))) ∧ BelX (fun k => k = Bf) w8.heap.size w8 W
theorem oti_own {Bf : Nat} {ns : List Int} {w8 : World} (h : Bf < w8.heap.size) : OwnFrom w8.heap.size (OTI Bf ns w8) := by
  rintro pre W W' row ⟨a, b⟩ hg hr
  exact ⟨a.kept hg (fun e => by have := (hr Bf e.symm).1; omega), b.trans (BelX.grown hg b.size (fun r e => .inl (hr r e).1))⟩

set_option maxRecDepth 100000 in
set_option maxHeartbeats 8000000 in
theorem twice_any {w : World} {va cv : Value} {l : List It} {f : It → It → Int} {I : World → Prop} (ha : ItRd (fun _ => True) w va l) (hl : l.length ≤ 8796093022208) (hc : CmpIs I cv f) (hI : ∀ W, Below w.heap.size w W → I W) :
    Calls Try.prog 24 #[va, cv] w fun e w' => e = .returned (.int .i64 (tw f l)) ∧ Below w.heap.size w w' := by
  have haa := ha
  have hcc := hc
  obtain ⟨cg, cl, rfl, eg, hcall⟩ := hc.val
  obtain ⟨ao, ca, rfl, hac, ham, hacl⟩ := ha
  unfold maxLen at ham
  have hfn : ∀ (w : World) f a c, (binOp .eql 28 (.func f a c) .nilFunc).run Try.prog w = .ok (.bool false) w := ofunc_nil itdesc
  obtain ⟨W2, hW2⟩ : ∃ u, (w.alloc (.cells #[.slice ao l.length ca] 22)).alloc (.cells #[.func (.func cg) #[] cl] 28) = u := ⟨_, rfl⟩
  have K2 : Below w.heap.size w W2 := by rw [← hW2]; exact ((Below.refl _ w).alloc (Nat.le_refl _) _).alloc (by simp) _
  have bL : Boxed W2 w.heap.size 22 (.slice ao l.length ca) := by rw [← hW2]; exact (Boxed.new _ _ _).alloc _
  have bC : Boxed W2 (w.heap.size + 1) 28 (.func (.func cg) #[] cl) := by
    rw [← hW2]
    have := Boxed.new (w.alloc (.cells #[.slice ao l.length ca] 22)) 28 (.func (.func cg) #[] cl)
    simpa using this
  have HN := hide (byNo_is (w := W2) bL bC (haa.below K2) hl hcc (fun W k => hI W (K2.trans (k.mono K2.size))))
  have cL := bL.cell
  have cC := bC.cell
  have BL := hide bL
  have HK2 := hide K2
  obtain ⟨ns, hns⟩ : ∃ ns, srt (byNo f l) 1 (upN l.length) = ns := ⟨_, rfl⟩
  have hnl : Hid (ns.length = l.length) := hide (by rw [← hns, srt_len, upN_len])
  have HNM := hide (show ∀ x ∈ ns, 0 ≤ x ∧ x < (l.length : Int) from fun x hx => upN_mem (mem_srt.1 (by rw [hns]; exact hx)))
  have htw : tw f l = (reps (byNo f l) 0 ns).foldl (twS ns) (-1) := by rw [tw, hns]
  rw [htw]
  have HNS := hide hns
  clear haa hcc hcall hacl hc K2 bL bC hI hns htw
  refine (callsIn_wide (n := 4)).1 ?_
  refine callsIn_of_wp_marks Try.func24 rfl trivial ?_ rfl
  simp only [Try.ntmps24, List.size_toArray, List.length_cons, List.length_nil, Nat.reduceAdd, Nat.reduceSub, Array.replicate_succ, Array.replicate_zero, List.push_toArray, List.append_toArray, List.nil_append, List.cons_append]
  refine wpIn_wide.2 ?_
  go_wp2_with fail
  refine (upTo_any hl).mono ?_
  rintro e w3 ⟨⟨g, rfl, hg, hr⟩, k3⟩
  have c4 := ntsort_any (w := w3) (xs := upN l.length) (by rw [upN_len]; exact hl) (hr.rd (G := fun _ => True) trivial (c := l.length) (by rw [upN_len]; exact Nat.le_refl _) (by unfold maxLen; omega)) HN.out (fun x hx => upN_mem hx) k3 (fun W W' h k => h.trans (k.mono k3.size))
  rw [HNS.out, upN_len] at c4
  have C4 := hide c4
  have K3 := hide k3
  clear c4 k3 hr cL cC hW2
  go_wp2_with fail
  refine C4.out.mono ?_
  rintro e w4 ⟨⟨v, rfl, ho⟩, k4⟩
  obtain ⟨no, nc, rfl, hn1, hn2, hn3⟩ := ho.rd
  unfold maxLen at hn2
  have RN : Hid (NtRd (fun g => g < w4.heap.size) w4 (.slice no ns.length nc) ns) := hide (ho.rd.mono (fun _ h _ => h))
  have K4 : Hid (Below W2.heap.size W2 w4) := hide (K3.out.trans (k4.mono K3.out.size))
  clear ho hn3 k4 C4 K3
  obtain ⟨W5, hW5⟩ : ∃ u, (w4.alloc (.cells #[.slice no ns.length nc] 61)).alloc (.cells #[.int .i64 (-1)] 3) = u := ⟨_, rfl⟩
  have K5 : Hid (Below w4.heap.size w4 W5) := by rw [← hW5]; exact hide (((Below.refl _ w4).alloc (Nat.le_refl _) _).alloc (by simp) _)
  have bN : Boxed W5 w4.heap.size 61 (.slice no ns.length nc) := by rw [← hW5]; exact (Boxed.new _ _ _).alloc _
  have bF : Boxed W5 (w4.heap.size + 1) 3 (.int .i64 (-1)) := by
    rw [← hW5]
    have := Boxed.new (w4.alloc (.cells #[.slice no ns.length nc] 61)) 3 (.int .i64 (-1))
    simpa using this
  have cN := bN.cell
  go_wp2_with fail
  refine ntrep_box.mono ?_
  rintro e w8 ⟨rfl, b1, b2, k8⟩
  have bN8 := k8.block _ bN.lt
  have h58 : W5.heap.size + 1 < w8.heap.size := b2.lt
  have h45 : w4.heap.size + 1 < W5.heap.size := bF.lt
  have K8 : Hid (Below w4.heap.size w4 w8) := hide (K5.out.trans (k8.mono K5.out.size))
  have BN : Hid (Boxed w8 w4.heap.size 61 (.slice no ns.length nc)) := hide (bN8.trans bN)
  have BF : Hid (Boxed w8 (w4.heap.size + 1) 3 (.int .i64 (-1))) := hide ((k8.block _ bF.lt).trans bF)
  have hseq := ntrep_stops (n := 3) (X := fun k => k = w4.heap.size + 1) (n₀ := w8.heap.size) (by omega) b1 b2 ⟨by omega, by omega⟩ ⟨by omega, by omega⟩
    (((RN.out.below K8.out).mono (H := fun g => g < w8.heap.size ∧ ¬ g = w4.heap.size + 1) (fun g hg h => ⟨hg, fun e => by omega⟩))) HN.out (K4.out.trans (K8.out.mono K4.out.size)) (fun W W' h k => h.trans (k.below (by have := K4.out.size; omega) (fun k hk e => by have := K4.out.size; omega))) (Nat.le_refl _) (by have := hnl.out; omega) HNM.out
  have HSEQ := hide hseq
  clear hseq bN bF cN k8 bN8 b1 b2 K5 hW5
  go_wp2_with fail
  refine (wpIn_wide (n := 4)).1 ?_
  refine' wpIn_rangeFunc_ownG rfl (by omega) (gf := 55) (lb := #[.pointer (some ⟨W5.heap.size, 0, none⟩), .pointer (some ⟨W5.heap.size + 1, 0, none⟩)]) (by simp [go_sem]) trivial (enters_of Try.func55 (by kernel_rfl) rfl)
    HSEQ.out BelX.trans (fun W l o o' hl _ _ _ => belx_putObj o' hl) (Below.refl _ _) (fun _ => rfl)
    (fun pre W' => OTI (w4.heap.size + 1) ns w8 pre W') (fun _ _ _ => False) (oti_own (by omega)) (fun _ _ _ _ _ hs _ _ => hs) ⟨BF.out, BelX.refl _ _ _⟩ _ _ _ _ _
  case refine'_2 =>
    intro l x W K hK
    gi_wp2
    exact hK
  case refine'_3 =>
    rintro l' pre x W' ⟨r1, r2⟩ hlt
    have bN' : Boxed W' w4.heap.size 61 (.slice no ns.length nc) := r2.boxed BN.out (by omega) (by omega)
    have cN := bN'.cell
    obtain ⟨acc, hacc⟩ : ∃ a, (pre.map Subtype.val).foldl (twS ns) (-1) = a := ⟨_, rfl⟩
    have hnx : ((pre ++ [x]).map Subtype.val).foldl (twS ns) (-1) = twS ns acc x.1 := by rw [List.map_append, List.foldl_append, hacc]; rfl
    rw [hacc] at r1
    have HNX := hide hnx
    have c1 := r1.cell
    have f1 := r1.frozen
    have R1 := hide r1
    have R2 := hide r2
    obtain ⟨x, hx⟩ := x
    obtain ⟨no', nc', e1, _, _, rd⟩ := (RN.out.below K8.out)
    injection e1 with e1 e2 e3
    subst e1 e3
    obtain ⟨gn, on, rfl, hg4, hgl, hin⟩ := rd (by omega)
    obtain ⟨y, hy⟩ : ∃ y, ns[x] = y := ⟨_, rfl⟩
    have cy := hin x hx
    rw [hy] at cy
    have hgf : gn ≠ w4.heap.size + 1 := by omega
    have cy' := (r2.cell (p := ⟨gn, _, none⟩) hgl hgf).trans cy
    have q1 : (x : Int) < (ns.length : Int) := by omega
    have hty : ns[x]?.getD 0 = y := by simp [hx, hy]
    have HTY := hide hty
    clear r1 r2 hacc hnx rd hin cy hlt e2 bN' hty hy
    have HDR : Hid (BelX (fun k => k = w4.heap.size + 1) w8.heap.size W' W'.drew) := hide (BelX.of ((Below.refl W'.heap.size W').drew) R2.out.size)
    have HBD : Hid (Boxed W'.drew (w4.heap.size + 1) 3 (.int .i64 acc)) := R1
    by_cases ha0 : acc < 0
    · have d1 : decide (acc < 0) = true := by simpa using ha0
      have HT : Hid (twS ns acc x = y) := hide (by rw [twS, HTY.out, if_pos (.inl ha0)])
      gi_wp2
      refine wpHeld.region (C := fun u => u = W'.drew) (D := fun _ => false) (by kernel_rfl) ?_
      refine wpHeld.tk (i := 0) (d := some 21) (v := .int .i64 acc) (by kernel_rfl) rfl (by kernel_rfl) (by kernel_rfl) (by kernel_rfl) (by kernel_rfl) rfl (fun _ _ _ h => h) ⟨Or.inl ⟨by rfl, ?_⟩, fun _ => rfl⟩ rfl ?_
      · rintro _ rfl
        go_simp
      simp only [Act.put, List.setIfInBounds_toArray, List.set_cons_zero, List.set_cons_succ]
      refine wpHeld.tk (i := 1) (d := some 22) (v := .bool true) (by kernel_rfl) rfl (by kernel_rfl) (by kernel_rfl) (by kernel_rfl) (by kernel_rfl) rfl (fun _ _ _ h => h) ⟨Or.inl ⟨by rfl, ?_⟩, fun _ => rfl⟩ rfl ?_
      · rintro _ rfl
        go_simp
      simp only [Act.put, List.setIfInBounds_toArray, List.set_cons_zero, List.set_cons_succ]
      refine wpHeld.tk (i := 2) (d := some 23) (v := .bool true) (by kernel_rfl) rfl (by kernel_rfl) (by kernel_rfl) (by kernel_rfl) (by kernel_rfl) rfl (fun _ _ _ h => h) ⟨Or.inl ⟨by rfl, ?_⟩, fun _ => rfl⟩ rfl ?_
      · rintro _ rfl
        go_simp
      simp only [Act.put, List.setIfInBounds_toArray, List.set_cons_zero, List.set_cons_succ]
      refine wpHeld.tk (i := 3) (d := some 24) (v := undef) (by kernel_rfl) rfl (by kernel_rfl) (by kernel_rfl) (by kernel_rfl) (by kernel_rfl) rfl (fun _ _ _ h => h) ⟨Or.inr ⟨by rfl, rfl⟩, fun _ => rfl⟩ rfl ?_
      simp only [Act.put, List.setIfInBounds_toArray, List.set_cons_zero, List.set_cons_succ]
      refine wpHeld.tk (i := 4) (d := some 25) (v := undef) (by kernel_rfl) rfl (by kernel_rfl) (by kernel_rfl) (by kernel_rfl) (by kernel_rfl) rfl (fun _ _ _ h => h) ⟨Or.inr ⟨by rfl, rfl⟩, fun _ => rfl⟩ rfl ?_
      simp only [Act.put, List.setIfInBounds_toArray, List.set_cons_zero, List.set_cons_succ]
      refine wpHeld.tk (i := 5) (d := some 26) (v := undef) (by kernel_rfl) rfl (by kernel_rfl) (by kernel_rfl) (by kernel_rfl) (by kernel_rfl) rfl (fun _ _ _ h => h) ⟨Or.inr ⟨by rfl, rfl⟩, fun _ => rfl⟩ rfl ?_
      simp only [Act.put, List.setIfInBounds_toArray, List.set_cons_zero, List.set_cons_succ]
      refine wpHeld.tk (i := 6) (d := some 27) (v := undef) (by kernel_rfl) rfl (by kernel_rfl) (by kernel_rfl) (by kernel_rfl) (by kernel_rfl) rfl (fun _ _ _ h => h) ⟨Or.inr ⟨by rfl, rfl⟩, fun _ => rfl⟩ rfl ?_
      simp only [Act.put, List.setIfInBounds_toArray, List.set_cons_zero, List.set_cons_succ]
      refine wpHeld.tk (i := 7) (d := some 28) (v := undef) (by kernel_rfl) rfl (by kernel_rfl) (by kernel_rfl) (by kernel_rfl) (by kernel_rfl) rfl (fun _ _ _ h => h) ⟨Or.inr ⟨by rfl, rfl⟩, fun _ => rfl⟩ rfl ?_
      simp only [Act.put, List.setIfInBounds_toArray, List.set_cons_zero, List.set_cons_succ]
      refine wpHeld.tk (i := 8) (d := some 29) (v := undef) (by kernel_rfl) rfl (by kernel_rfl) (by kernel_rfl) (by kernel_rfl) (by kernel_rfl) rfl (fun _ _ _ h => h) ⟨Or.inr ⟨by rfl, rfl⟩, fun _ => rfl⟩ rfl ?_
      simp only [Act.put, List.setIfInBounds_toArray, List.set_cons_zero, List.set_cons_succ]
      refine wpHeld.tk (i := 9) (d := some 30) (v := .bool true) (by kernel_rfl) rfl (by kernel_rfl) (by kernel_rfl) (by kernel_rfl) (by kernel_rfl) rfl (fun _ _ _ h => h) ⟨Or.inl ⟨by rfl, ?_⟩, fun _ => rfl⟩ rfl ?_
      · rintro _ rfl
        go_simp
      simp only [Act.put, List.setIfInBounds_toArray, List.set_cons_zero, List.set_cons_succ]
      refine wpHeld.done (by kernel_rfl) ?_ _
      gi_wp2
      exact ⟨((KeepsOthers.drew W').trans (KeepsOthers.setCell _ _ _)).from _, HDR.out.trans (belx_set _ _ rfl), by rw [HNX.out, HT.out]; exact HBD.out.set _, R2.out.trans (HDR.out.trans (belx_set _ _ rfl))⟩
    · have d1 : decide (acc < 0) = false := by simpa using ha0
      by_cases hya : y < acc
      · have d2 : decide (y < acc) = true := by simpa using hya
        have HT : Hid (twS ns acc x = y) := hide (by rw [twS, HTY.out, if_pos (.inr hya)])
        gi_wp2
        refine wpHeld.region (C := fun u => u = W'.drew) (D := fun _ => false) (by kernel_rfl) ?_
        refine wpHeld.tk (i := 0) (d := some 21) (v := .int .i64 acc) (by kernel_rfl) rfl (by kernel_rfl) (by kernel_rfl) (by kernel_rfl) (by kernel_rfl) rfl (fun _ _ _ h => h) ⟨Or.inl ⟨by rfl, ?_⟩, fun _ => rfl⟩ rfl ?_
        · rintro _ rfl
          go_simp
        simp only [Act.put, List.setIfInBounds_toArray, List.set_cons_zero, List.set_cons_succ]
        refine wpHeld.tk (i := 1) (d := some 22) (v := .bool false) (by kernel_rfl) rfl (by kernel_rfl) (by kernel_rfl) (by kernel_rfl) (by kernel_rfl) rfl (fun _ _ _ h => h) ⟨Or.inl ⟨by rfl, ?_⟩, fun _ => rfl⟩ rfl ?_
        · rintro _ rfl
          go_simp
        simp only [Act.put, List.setIfInBounds_toArray, List.set_cons_zero, List.set_cons_succ]
        refine wpHeld.tk (i := 2) (d := some 23) (v := .bool false) (by kernel_rfl) rfl (by kernel_rfl) (by kernel_rfl) (by kernel_rfl) (by kernel_rfl) rfl (fun _ _ _ h => h) ⟨Or.inl ⟨by rfl, ?_⟩, fun _ => rfl⟩ rfl ?_
        · rintro _ rfl
          go_simp
        simp only [Act.put, List.setIfInBounds_toArray, List.set_cons_zero, List.set_cons_succ]
        refine wpHeld.tk (i := 3) (d := some 24) (v := .slice (some ⟨gn, on, none⟩) ns.length nc) (by kernel_rfl) rfl (by kernel_rfl) (by kernel_rfl) (by kernel_rfl) (by kernel_rfl) rfl (fun _ _ _ h => h) ⟨Or.inl ⟨by rfl, ?_⟩, fun _ => rfl⟩ rfl ?_
        · rintro _ rfl
          go_simp
        simp only [Act.put, List.setIfInBounds_toArray, List.set_cons_zero, List.set_cons_succ]
        refine wpHeld.tk (i := 4) (d := some 25) (v := .int .i64 x) (by kernel_rfl) rfl (by kernel_rfl) (by kernel_rfl) (by kernel_rfl) (by kernel_rfl) rfl (fun _ _ _ h => h) ⟨Or.inl ⟨by rfl, ?_⟩, fun _ => rfl⟩ rfl ?_
        · rintro _ rfl
          go_simp
        simp only [Act.put, List.setIfInBounds_toArray, List.set_cons_zero, List.set_cons_succ]
        refine wpHeld.tk (i := 5) (d := some 26) (v := .pointer (some ⟨gn, on + x, none⟩)) (by kernel_rfl) rfl (by kernel_rfl) (by kernel_rfl) (by kernel_rfl) (by kernel_rfl) rfl (fun _ _ _ h => h) ⟨Or.inl ⟨by rfl, ?_⟩, fun _ => rfl⟩ rfl ?_
        · rintro _ rfl
          go_simp
        simp only [Act.put, List.setIfInBounds_toArray, List.set_cons_zero, List.set_cons_succ]
        refine wpHeld.tk (i := 6) (d := some 27) (v := .int .i64 y) (by kernel_rfl) rfl (by kernel_rfl) (by kernel_rfl) (by kernel_rfl) (by kernel_rfl) rfl (fun _ _ _ h => h) ⟨Or.inl ⟨by rfl, ?_⟩, fun _ => rfl⟩ rfl ?_
        · rintro _ rfl
          go_simp
        simp only [Act.put, List.setIfInBounds_toArray, List.set_cons_zero, List.set_cons_succ]
        refine wpHeld.tk (i := 7) (d := some 28) (v := .int .i64 acc) (by kernel_rfl) rfl (by kernel_rfl) (by kernel_rfl) (by kernel_rfl) (by kernel_rfl) rfl (fun _ _ _ h => h) ⟨Or.inl ⟨by rfl, ?_⟩, fun _ => rfl⟩ rfl ?_
        · rintro _ rfl
          go_simp
        simp only [Act.put, List.setIfInBounds_toArray, List.set_cons_zero, List.set_cons_succ]
        refine wpHeld.tk (i := 8) (d := some 29) (v := .bool true) (by kernel_rfl) rfl (by kernel_rfl) (by kernel_rfl) (by kernel_rfl) (by kernel_rfl) rfl (fun _ _ _ h => h) ⟨Or.inl ⟨by rfl, ?_⟩, fun _ => rfl⟩ rfl ?_
        · rintro _ rfl
          go_simp
        simp only [Act.put, List.setIfInBounds_toArray, List.set_cons_zero, List.set_cons_succ]
        refine wpHeld.tk (i := 9) (d := some 30) (v := .bool true) (by kernel_rfl) rfl (by kernel_rfl) (by kernel_rfl) (by kernel_rfl) (by kernel_rfl) rfl (fun _ _ _ h => h) ⟨Or.inl ⟨by rfl, ?_⟩, fun _ => rfl⟩ rfl ?_
        · rintro _ rfl
          go_simp
        simp only [Act.put, List.setIfInBounds_toArray, List.set_cons_zero, List.set_cons_succ]
        refine wpHeld.done (by kernel_rfl) ?_ _
        gi_wp2
        exact ⟨((KeepsOthers.drew W').trans (KeepsOthers.setCell _ _ _)).from _, HDR.out.trans (belx_set _ _ rfl), by rw [HNX.out, HT.out]; exact HBD.out.set _, R2.out.trans (HDR.out.trans (belx_set _ _ rfl))⟩
      · have d2 : decide (y < acc) = false := by simpa using hya
        have HT : Hid (twS ns acc x = acc) := hide (by rw [twS, HTY.out, if_neg (by rintro (h | h); exact ha0 h; exact hya h)])
        gi_wp2
        refine wpHeld.region (C := fun u => u = W'.drew) (D := fun _ => false) (by kernel_rfl) ?_
        refine wpHeld.tk (i := 0) (d := some 21) (v := .int .i64 acc) (by kernel_rfl) rfl (by kernel_rfl) (by kernel_rfl) (by kernel_rfl) (by kernel_rfl) rfl (fun _ _ _ h => h) ⟨Or.inl ⟨by rfl, ?_⟩, fun _ => rfl⟩ rfl ?_
        · rintro _ rfl
          go_simp
        simp only [Act.put, List.setIfInBounds_toArray, List.set_cons_zero, List.set_cons_succ]
        refine wpHeld.tk (i := 1) (d := some 22) (v := .bool false) (by kernel_rfl) rfl (by kernel_rfl) (by kernel_rfl) (by kernel_rfl) (by kernel_rfl) rfl (fun _ _ _ h => h) ⟨Or.inl ⟨by rfl, ?_⟩, fun _ => rfl⟩ rfl ?_
        · rintro _ rfl
          go_simp
        simp only [Act.put, List.setIfInBounds_toArray, List.set_cons_zero, List.set_cons_succ]
        refine wpHeld.tk (i := 2) (d := some 23) (v := .bool false) (by kernel_rfl) rfl (by kernel_rfl) (by kernel_rfl) (by kernel_rfl) (by kernel_rfl) rfl (fun _ _ _ h => h) ⟨Or.inl ⟨by rfl, ?_⟩, fun _ => rfl⟩ rfl ?_
        · rintro _ rfl
          go_simp
        simp only [Act.put, List.setIfInBounds_toArray, List.set_cons_zero, List.set_cons_succ]
        refine wpHeld.tk (i := 3) (d := some 24) (v := .slice (some ⟨gn, on, none⟩) ns.length nc) (by kernel_rfl) rfl (by kernel_rfl) (by kernel_rfl) (by kernel_rfl) (by kernel_rfl) rfl (fun _ _ _ h => h) ⟨Or.inl ⟨by rfl, ?_⟩, fun _ => rfl⟩ rfl ?_
        · rintro _ rfl
          go_simp
        simp only [Act.put, List.setIfInBounds_toArray, List.set_cons_zero, List.set_cons_succ]
        refine wpHeld.tk (i := 4) (d := some 25) (v := .int .i64 x) (by kernel_rfl) rfl (by kernel_rfl) (by kernel_rfl) (by kernel_rfl) (by kernel_rfl) rfl (fun _ _ _ h => h) ⟨Or.inl ⟨by rfl, ?_⟩, fun _ => rfl⟩ rfl ?_
        · rintro _ rfl
          go_simp
        simp only [Act.put, List.setIfInBounds_toArray, List.set_cons_zero, List.set_cons_succ]
        refine wpHeld.tk (i := 5) (d := some 26) (v := .pointer (some ⟨gn, on + x, none⟩)) (by kernel_rfl) rfl (by kernel_rfl) (by kernel_rfl) (by kernel_rfl) (by kernel_rfl) rfl (fun _ _ _ h => h) ⟨Or.inl ⟨by rfl, ?_⟩, fun _ => rfl⟩ rfl ?_
        · rintro _ rfl
          go_simp
        simp only [Act.put, List.setIfInBounds_toArray, List.set_cons_zero, List.set_cons_succ]
        refine wpHeld.tk (i := 6) (d := some 27) (v := .int .i64 y) (by kernel_rfl) rfl (by kernel_rfl) (by kernel_rfl) (by kernel_rfl) (by kernel_rfl) rfl (fun _ _ _ h => h) ⟨Or.inl ⟨by rfl, ?_⟩, fun _ => rfl⟩ rfl ?_
        · rintro _ rfl
          go_simp
        simp only [Act.put, List.setIfInBounds_toArray, List.set_cons_zero, List.set_cons_succ]
        refine wpHeld.tk (i := 7) (d := some 28) (v := .int .i64 acc) (by kernel_rfl) rfl (by kernel_rfl) (by kernel_rfl) (by kernel_rfl) (by kernel_rfl) rfl (fun _ _ _ h => h) ⟨Or.inl ⟨by rfl, ?_⟩, fun _ => rfl⟩ rfl ?_
        · rintro _ rfl
          go_simp
        simp only [Act.put, List.setIfInBounds_toArray, List.set_cons_zero, List.set_cons_succ]
        refine wpHeld.tk (i := 8) (d := some 29) (v := .bool false) (by kernel_rfl) rfl (by kernel_rfl) (by kernel_rfl) (by kernel_rfl) (by kernel_rfl) rfl (fun _ _ _ h => h) ⟨Or.inl ⟨by rfl, ?_⟩, fun _ => rfl⟩ rfl ?_
        · rintro _ rfl
          go_simp
        simp only [Act.put, List.setIfInBounds_toArray, List.set_cons_zero, List.set_cons_succ]
        refine wpHeld.tk (i := 9) (d := some 30) (v := .bool false) (by kernel_rfl) rfl (by kernel_rfl) (by kernel_rfl) (by kernel_rfl) (by kernel_rfl) rfl (fun _ _ _ h => h) ⟨Or.inl ⟨by rfl, ?_⟩, fun _ => rfl⟩ rfl ?_
        · rintro _ rfl
          go_simp
        simp only [Act.put, List.setIfInBounds_toArray, List.set_cons_zero, List.set_cons_succ]
        refine wpHeld.done (by kernel_rfl) ?_ _
        gi_wp2
        exact ⟨(KeepsOthers.drew W').from _, HDR.out, by rw [HNX.out, HT.out]; exact HBD.out, R2.out.trans HDR.out⟩
  case refine'_4 =>
    rintro D ys W' hD hys ⟨r1, r2⟩ hK
    rw [hys] at r1
    have hc := r1.cell
    go_wp2
    refine ⟨by simp, .inl ⟨_, _, rfl, run_takeDeferred hK, ?_⟩⟩
    exact ⟨_, results_tmp rfl _ _ _, rfl, HK2.out.trans (((K4.out.trans (K8.out.mono K4.out.size)).mono HK2.out.size).trans ((r2.trans (belx_putObj _ hD)).below (B := w.heap.size) (by have := HK2.out.size; have := K4.out.size; omega) (fun k hk e => by have := HK2.out.size; have := K4.out.size; omega)))⟩
  case refine'_5 =>
    rintro D c pre W' _ _ h _
    exact h.elim

end Go.Proofs.Ytomieeajmelglaa
