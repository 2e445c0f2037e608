/- escape: take -/
import Derived.Test.YtegokdhmpopggaaDoorXRdr
namespace Go.Proofs.YtegokdhmpopggaaDoor
open Go.RowKit
set_option linter.unusedVariables false

theorem bel_drewN (B : Nat) (w : World) (n : Nat) : Below B w (w.drewN n) := ⟨rfl, rfl, rfl, Nat.le_refl _, fun _ _ => rfl⟩
/-- all blocks but b are as they were -/
def Oth (b : Nat) (w w' : World) : Prop := w.heap.size ≤ w'.heap.size ∧ ∀ k, k < w.heap.size → k ≠ b → w'.heap[k]? = w.heap[k]?
theorem Oth.refl (b : Nat) (w : World) : Oth b w w := ⟨Nat.le_refl _, fun _ _ _ => rfl⟩
theorem Oth.trans {b : Nat} {u v w : World} (h : Oth b u v) (g : Oth b v w) : Oth b u w := ⟨Nat.le_trans h.1 g.1, fun k hk hb => (g.2 k (Nat.lt_of_lt_of_le hk h.1) hb).trans (h.2 k hk hb)⟩
theorem Oth.of {b : Nat} {w w' : World} (h : Below w.heap.size w w') : Oth b w w' := ⟨h.size, fun k hk _ => h.block k hk⟩
theorem Oth.set {b o : Nat} {w w' : World} {v : Value} (h : Oth b w w') : Oth b w (w'.setCell ⟨b, o, none⟩ v) := ⟨by simpa [World.setCell] using h.1, fun k hk hb => (Below.heap_setCell _ _ _ _ hb).trans (h.2 k hk hb)⟩
/-- the next byte lies in one of the spans -/
def xTk (ls : List Int) (k : Nat) (sp : List (Int × Int)) : Bool := decide (k < ls.length) && xSp (Nt.lb ls k) sp

set_option maxRecDepth 100000 in
set_option maxHeartbeats 4000000 in
theorem take_any {B b k : Nat} {s : ByteArray} {es ls : List Int} {w : World} {v : Value} {sp : List (Int × Int)} (h : Rdr B b s k es w) (hb : uByt ls) (hs : s = strOfNums ls) (hl : ls.length ≤ 9223372036854775000) (hk : k ≤ ls.length) (hv : SpAt w v sp) (hsp : sp.length ≤ 1000) :
    Calls Tryd.prog 38 #[.pointer (some ⟨b, 0, none⟩), v] w fun e w' => e = .returned (.bool (xTk ls k sp)) ∧ Rdr B b s (if xTk ls k sp = true then k + 1 else k) es w' ∧ Below B w w' ∧ Oth b w w' := by
  have hsz : s.size = ls.length := by rw [hs, strOfNums_size]
  have hle := h.le
  have hlt := h.lt
  have hBw : B ≤ w.heap.size := by omega
  have H := hide h
  have D0 := hide (Below.refl w.heap.size w)
  by_cases hlt2 : k < ls.length
  · have Hix := utxt_at (es := ls) (p := k) (by rw [strOfNums_size]; exact hlt2) hb
    have hks : k < s.size := by omega
    have hx : (((s[k]'hks).toNat : Nat) : Int) = Nt.lb ls k := by subst hs; exact Hix
    have hc : 0 ≤ Nt.lb ls k ∧ Nt.lb ls k < 256 := by have := hb _ (List.getElem_mem hlt2); simpa [Nt.lb, hlt2] using this
    have eTk : xTk ls k sp = xSp (Nt.lb ls k) sp := by unfold xTk; rw [decide_eq_true hlt2]; rfl
    rw [eTk]
    obtain ⟨c, hcc⟩ : ∃ c, Nt.lb ls k = c := ⟨_, rfl⟩
    rw [hcc] at hx hc ⊢
    have c0 := h.c0
    have c1 := h.c1
    obtain ⟨L, hL⟩ : ∃ L, s.size = L := ⟨_, rfl⟩
    have q1 : ((k : Int) == (L : Int)) = false := beq_eq_false_iff_ne.2 (by omega)
    have q2 : k < L := by omega
    have q3 : k ≤ 9223372036854775000 := by omega
    have HI := hide (fun (W : World) (hb : Below w.heap.size w W) => in_any (w := W) (c := c) (sp := sp) (v := v) (by
      obtain ⟨g, rfl, hg, hcell⟩ := hv
      refine ⟨g, rfl, Nat.lt_of_lt_of_le hg hb.size, fun i q hq => ?_⟩
      rw [(ubcell0 hb).1 _ _ hg, (ubcell0 hb).1 _ _ hg]
      exact hcell i q hq) hsp)
    obtain ⟨R, hR⟩ : ∃ R, xSp c sp = R := ⟨_, rfl⟩
    rw [hR] at HI ⊢
    clear Hix eTk hcc hR hv h hs hsz hlt2 hk hl hb D0
    cases R with
    | true =>
      go_enter Tryd.func38, Tryd.ntmps38
      go_upto_region 1 with fail
      have K : Below w.heap.size w w.drew := (Below.refl _ _).drew
      go_region_held3 (fun w' => w'.cell? ⟨b, 0, none⟩ = some (.string s) ∧ w'.cell? ⟨b, 1, none⟩ = some (.int .i64 k))
        (first
          | exact ⟨by rw [(ubcell0 K).1 _ _ hlt]; exact c0, by rw [(ubcell0 K).1 _ _ hlt]; exact c1⟩
          | go_keep)
        (first | (go_at_call 34; refine (HI.out _ K).mono ?_; rintro e w2 ⟨rfl, hb2⟩; replace K := K.trans (hb2.mono K.size); clear hb2))
      (try simp only [Bool.not_true])
      have H2 := H.out.below K
      have c1' := H2.c1
      have f1' := H2.f1
      replace K := hide K
      clear HI c0 c1 hx hc q1 q2 hL
      have HM := hide (H2.move (j := k + 1) (z := (k : Int) + 1) (by omega))
      clear H2
      go_wp2
      go_ret
      exact ⟨rfl, HM.out.1, (K.out.mono hBw).trans HM.out.2, (Oth.of K.out).set⟩
    | false =>
      go_enter Tryd.func38, Tryd.ntmps38
      go_upto_region 1 with fail
      have K : Below w.heap.size w w.drew := (Below.refl _ _).drew
      go_region_held3 (fun w' => w'.cell? ⟨b, 0, none⟩ = some (.string s) ∧ w'.cell? ⟨b, 1, none⟩ = some (.int .i64 k))
        (first
          | exact ⟨by rw [(ubcell0 K).1 _ _ hlt]; exact c0, by rw [(ubcell0 K).1 _ _ hlt]; exact c1⟩
          | go_keep)
        (first | (go_at_call 34; refine (HI.out _ K).mono ?_; rintro e w2 ⟨rfl, hb2⟩; replace K := K.trans (hb2.mono K.size); clear hb2))
      (try simp only [Bool.not_false])
      replace K := hide K
      clear HI c0 c1 hx hc q1 q2 hL q3
      go_wp2
      go_ret
      exact ⟨rfl, H.out.below K.out, K.out.mono hBw, Oth.of K.out⟩
  · have eTk : xTk ls k sp = false := by unfold xTk; rw [decide_eq_false hlt2]; rfl
    rw [eTk]
    have c0 := h.c0
    have c1 := h.c1
    obtain ⟨L, hL⟩ : ∃ L, s.size = L := ⟨_, rfl⟩
    have q1 : ((k : Int) == (L : Int)) = true := by rw [show k = L by omega]; simp
    clear hv h hs hsz hlt2 hk hl eTk hb
    go_enter Tryd.func38, Tryd.ntmps38
    go_upto_region 1 with fail
    go_quiet (fail)
    go_wp2
    go_ret
    exact ⟨rfl, H.out.below (bel_drewN _ _ _), bel_drewN _ _ _, Oth.of (bel_drewN _ _ _)⟩

end Go.Proofs.YtegokdhmpopggaaDoor
