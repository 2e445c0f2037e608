/- upTo; the order by the elements' numbers -/
import Derived.Test.YtomieeajmelglaaOSortN
import Derived.Test.YtomieeajmelglaaORepN
namespace Go.Proofs.Ytomieeajmelglaa
open Go.RowKit Go.Shelf
set_option linter.unusedVariables false

def upN (n : Nat) : List Int := (List.range n).map fun (k : Nat) => (k : Int)
theorem upN_len (n : Nat) : (upN n).length = n := by simp [upN]
theorem upN_get {n k : Nat} (h : k < n) : (upN n)[k]'(by rw [upN_len]; exact h) = (k : Int) := by simp [upN]
theorem upN_mem {n : Nat} {x : Int} (h : x ∈ upN n) : 0 ≤ x ∧ x < (n : Int) := by
  simp only [upN, List.mem_map, List.mem_range] at h
  obtain ⟨k, hk, rfl⟩ := h
  omega

set_option maxRecDepth 100000 in
set_option maxHeartbeats 4000000 in
theorem upTo_any {w : World} {n : Nat} (hn : n ≤ 8796093022208) : Calls Try.prog 45 #[.int .i64 n] w fun e w' => (∃ g, e = .returned (.slice (some ⟨g, 0, none⟩) n n) ∧ w.heap.size ≤ g ∧ NtRow w' g (upN n)) ∧ Below w.heap.size w w' := by
  have mk := mk_ints hn
  have r0 : ∀ u : World, NtRow (u.alloc (.cells (flatN (List.replicate n 0)).toArray 3)) u.heap.size (List.replicate n 0) := fun u => heap_alloc_new u _
  have k0 : ∀ u : World, Below u.heap.size u (u.alloc (.cells (flatN (List.replicate n 0)).toArray 3)) := fun u => (Below.refl _ u).alloc (Nat.le_refl _) _
  have R0 := hide (r0 w)
  have K0 := hide (k0 w)
  clear r0 k0
  go_enter Try.func45, Try.ntmps45
  go_wp2
  obtain ⟨W0, hW0⟩ : ∃ u, w.alloc (.cells (flatN (List.replicate n 0)).toArray 3) = u := ⟨_, rfl⟩
  rw [hW0] at R0 K0 ⊢
  clear hW0 mk
  go_loopw [9] (fun kv wr => ∃ (k : Nat) (zs : List Int), kv = .int .i64 k ∧ k ≤ n ∧ zs.length = n ∧ Hid (NtRow wr w.heap.size zs) ∧ Hid (zs.take k = (upN n).take k) ∧ Hid (Below w.heap.size w wr)) (fun kv _ => n - (intOf kv).toNat)
  case atStart => exact ⟨0, _, rfl, by omega, by simp, R0, hide (by simp), K0⟩
  case round =>
    obtain ⟨k, zs, rfl, hk, hz, hR, hT, hB⟩ := hrel
    by_cases hkn : k < n
    · have q1 : (k : Int) < (n : Int) := by omega
      have fz := hR.out.frozen k
      have cz := hR.out.cell (i := k) (by omega)
      have HS := hide (hR.out.set (i := k) (by omega) (k : Int))
      have HB2 := hide (hB.out.setCell (p := ⟨w.heap.size, k, none⟩) (Nat.le_refl _) (.int .i64 k))
      have HT2 := hide (show (zs.set k (k : Int)).take (k + 1) = (upN n).take (k + 1) by
        rw [take_set_next (by omega) hT.out, List.take_succ_eq_append_getElem (by rw [upN_len]; exact hkn), upN_get hkn])
      clear hR hB hT
      go_wp2
      go_roundw
      case rel => exact ⟨k + 1, _, by simp, by omega, by rw [List.length_set]; exact hz, HS, HT2, HB2⟩
      case measure => simp [intOf]; omega
    · have q1 : ¬ (k : Int) < (n : Int) := by omega
      obtain rfl : k = n := by omega
      go_wp2
      go_ret
      refine ⟨⟨w.heap.size, rfl, Nat.le_refl _, ?_⟩, hB.out⟩
      have := hT.out
      rw [List.take_of_length_le (by omega), List.take_of_length_le (by rw [upN_len]; exact Nat.le_refl _)] at this
      rw [← this]
      exact hR.out

/-- the order of numbers by the elements that they number -/
def byNo (f : It → It → Int) (l : List It) (a b : Int) : Int := f (l[a.toNat]?.getD (0, 0)) (l[b.toNat]?.getD (0, 0))

set_option maxRecDepth 100000 in
set_option maxHeartbeats 4000000 in
theorem byNo_is {w : World} {va cv : Value} {l : List It} {f : It → It → Int} {I : World → Prop} {Bl Bc : Nat} (bL : Boxed w Bl 22 va) (bC : Boxed w Bc 28 cv) (ha : ItRd (fun _ => True) w va l) (hl : l.length ≤ 8796093022208) (hc : CmpIs I cv f) (hI : ∀ W, Below w.heap.size w W → I W) :
    CmpIsN (fun W => Below w.heap.size w W) (.func (.func 43) #[] #[.pointer (some ⟨Bc, 0, none⟩), .pointer (some ⟨Bl, 0, none⟩)]) l.length (byNo f l) := by
  refine ⟨_, _, rfl, enters_of Try.func43 (by kernel_rfl) rfl, ?_⟩
  intro W a b hB a0 a1 b0 b1
  obtain ⟨cg, cl, rfl, eg, hcall⟩ := hc.val
  obtain ⟨ao, ca, rfl, hac, ham, hacl⟩ := ha
  unfold maxLen at ham
  obtain ⟨i, rfl⟩ : ∃ i : Nat, (i : Int) = a := ⟨a.toNat, by omega⟩
  obtain ⟨j, rfl⟩ : ∃ j : Nat, (j : Int) = b := ⟨b.toNat, by omega⟩
  have hi : i < l.length := by omega
  have hj : j < l.length := by omega
  obtain ⟨g, o, rfl, _, hg, hin⟩ := hacl (by omega)
  have ef : byNo f l (i : Int) (j : Int) = f l[i] l[j] := by simp [byNo, hi, hj]
  rw [ef]
  obtain ⟨⟨x1, x2⟩, hx⟩ : ∃ x, l[i] = x := ⟨_, rfl⟩
  obtain ⟨⟨y1, y2⟩, hy⟩ : ∃ y, l[j] = y := ⟨_, rfl⟩
  have qi := hin i hi
  have qj := hin j hj
  rw [hx] at qi ⊢
  rw [hy] at qj ⊢
  have CF : Hid (∀ U, Below W.heap.size W U → U.cell? ⟨Bc, 0, none⟩ = some (.func (.func cg) #[] cl) ∧ U.cell? ⟨Bl, 0, none⟩ = some (.slice (some ⟨g, o, none⟩) l.length ca) ∧ U.cell? ⟨g, o + i * 2, none⟩ = some (.int .i64 x1) ∧ U.cell? ⟨g, o + i * 2 + 1, none⟩ = some (.int .i64 x2) ∧ U.cell? ⟨g, o + j * 2, none⟩ = some (.int .i64 y1) ∧ U.cell? ⟨g, o + j * 2 + 1, none⟩ = some (.int .i64 y2)) := hide (fun U k => by
    have kk : Below w.heap.size w U := hB.trans (k.mono hB.size)
    exact ⟨(kk.cell (p := ⟨Bc, 0, none⟩) bC.lt).trans bC.cell, (kk.cell (p := ⟨Bl, 0, none⟩) bL.lt).trans bL.cell, (kk.cell (p := ⟨g, _, none⟩) hg).trans qi.1, (kk.cell (p := ⟨g, _, none⟩) hg).trans qi.2, (kk.cell (p := ⟨g, _, none⟩) hg).trans qj.1, (kk.cell (p := ⟨g, _, none⟩) hg).trans qj.2⟩)
  have HC := hide (fun (U : World) (k : Below W.heap.size W U) => hcall U (x1, x2) (y1, y2) (hI U (hB.trans (k.mono hB.size))))
  have q1 : (i : Int) < (l.length : Int) := by omega
  have q2 : (j : Int) < (l.length : Int) := by omega
  have K : Below W.heap.size W W.drew := (Below.refl _ _).drew
  clear hin qi qj hcall hI hacl bL bC hB ef hx hy a0 a1 b0 b1
  show Calls Try.prog 43 #[.int .i64 i, .int .i64 j, .pointer (some ⟨Bc, 0, none⟩), .pointer (some ⟨Bl, 0, none⟩)] W _
  go_enter Try.func43, Try.ntmps43
  go_wp2
  first | go_region_held3 (fun u => u.cell? ⟨Bc, 0, none⟩ = some (.func (.func cg) #[] cl) ∧ u.cell? ⟨Bl, 0, none⟩ = some (.slice (some ⟨g, o, none⟩) l.length ca) ∧ u.cell? ⟨g, o + i * 2, none⟩ = some (.int .i64 x1) ∧ u.cell? ⟨g, o + i * 2 + 1, none⟩ = some (.int .i64 x2) ∧ u.cell? ⟨g, o + j * 2, none⟩ = some (.int .i64 y1) ∧ u.cell? ⟨g, o + j * 2 + 1, none⟩ = some (.int .i64 y2))
    (first | with_reducible exact CF.out _ K | go_keep)
    (first | (go_at_fn cg; (with_reducible refine (HC.out _ K).mono ?_); rintro e w8 ⟨rfl, hb⟩; replace K := K.trans (hb.mono K.size); clear hb)) | fail "region"
  go_wp2
  go_ret
  exact ⟨rfl, K⟩

end Go.Proofs.Ytomieeajmelglaa
