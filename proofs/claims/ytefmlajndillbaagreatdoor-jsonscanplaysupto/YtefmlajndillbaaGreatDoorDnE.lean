/- both scanners: one byte -/
import Derived.Test.YtefmlajndillbaaGreatDoorDnD
namespace Go.Proofs.YtefmlajndillbaaGreatDoor
open Go.RowKit
set_option linter.unusedVariables false

/-- both scanners, while no error is told; k: how many bytes were written -/
def DRel (m : Md) (t : St) (d : Dc) (es : List Int) (k : Nat) : Prop :=
  ∃ n, dEq d n ∧ DnR m t n ∧ (n.mode ≠ 6 → t.begun = []) ∧ (n.mode = 6 → ∃ σ, Lr t σ m ∧ xOk σ ∧ XRep σ d.lm d.l d.n d.h d.lo d.mo ∧ es.length + pend σ ≤ k)
/-- what one byte leaves -/
def DStep (w : World) (B p : Nat) (tv : Value) (d : Dc) (m : Md) (t : St) (k : Nat) (c : Int) (e : Ending) (w' : World) : Prop :=
  ∃ (code : Nat) (tv' : Value) (es' : List Int) (d' : Dc), e = .returned (.int .i64 code) ∧ DcS w' B p tv' es' d' ∧ Fr p tv tv' w w' ∧ d'.size = d.size ∧ d'.code = d.code ∧ d'.at_ = d.at_ ∧
    ((∃ u, stepB m c t = (none, u) ∧ code = (if u.bad = 0 then 3 else u.bad) ∧ code ≠ 0 ∧ d'.opn = t.opn.map (fun c => c - 2) ∧ u.opn = t.opn) ∨
     (∃ m' u, stepB m c t = (some m', u) ∧ code = 0 ∧ DRel m' u d' es' (k + 1) ∧ u.ends = endM m'))
theorem lr_ne {t : St} {σ : XS} {m : Md} (h : Lr t σ m) : σ ≠ .start ∧ σ ≠ .fin := by
  cases m <;> simp only [Lr] at h
  case piece => rw [h.2]; exact ⟨nofun, nofun⟩
  case backslash => rw [h.2]; exact ⟨nofun, nofun⟩
  case unit => rw [h.2]; exact ⟨nofun, nofun⟩
  case behindD => rw [h.2]; exact ⟨nofun, nofun⟩
  case digitsLeft => obtain ⟨_, l, n, x, rfl, _⟩ := h; exact ⟨nofun, nofun⟩
  case secondHalf => obtain ⟨_, x, _, rfl⟩ := h; exact ⟨nofun, nofun⟩
  case secondU => obtain ⟨_, x, _, rfl⟩ := h; exact ⟨nofun, nofun⟩
  case secondD => obtain ⟨_, x, _, rfl⟩ := h; exact ⟨nofun, nofun⟩
  case secondSpan => obtain ⟨_, x, _, rfl⟩ := h; exact ⟨nofun, nofun⟩
  case encoding => rcases h with ⟨a, _, _, _, rfl⟩ | ⟨a, b, _, _, _, _, rfl⟩ | ⟨a, b, c, _, _, _, _, _, rfl⟩ <;> exact ⟨nofun, nofun⟩
theorem lr_six {t : St} {σ : XS} {m : Md} (h : Lr t σ m) : dMd m = 6 := by
  cases m <;> first | rfl | exact absurd h (by simp [Lr])
theorem xrep_7 {τ : XS} {lm l n h lo mo : Int} (hr : XRep τ lm l n h lo mo) (hf : τ ≠ .fin) : (lm == 7) = false := by
  cases τ <;> simp only [XRep] at hr <;> first | exact absurd rfl hf | (rw [hr.1]; rfl) | (rw [hr]; rfl)
theorem opn_byt {t : St} (hc : Core t) : uByt (t.opn.map (fun c => c - 2)) := fun x hx => by
  obtain ⟨y, hy, rfl⟩ := List.mem_map.1 hx
  have := hc.brk y hy
  omega
theorem dMd_le (m : Md) : dMd m ≤ 15 := by cases m <;> simp [dMd]
theorem dMd_7 {m : Md} (h : dMd m = 7) : m = .letter := by cases m <;> simp [dMd] at h; rfl
/-- outside of literals -/
theorem dstep_out {w : World} {B p : Nat} {tv : Value} {es : List Int} {d : Dc} {n : Dn} {m : Md} {t : St} {k : Nat} {c : Int} (H : DcS w B p tv es d) (hn : dEq d n) (hr : DnR m t n) (hbg : t.begun = []) (h6 : n.mode ≠ 6) (hg : Good m t) (hb : t.bad = 0) (he : t.ends = false) (h0 : 0 ≤ c) (h1 : c < 256) :
    Calls Tryz.prog 34 #[.pointer (some ⟨p, 0, none⟩), .int .u8 c] w (DStep w B p tv d m t k c) := by
  have hs := dsim_step (b := c) hg hb he hr h6
  refine (dstp H hn (by rw [hr.op]; exact opn_byt hg.core) (by rw [hr.op]; simpa using hg.core.len) h0 h1 h6 (by rw [hr.md]; exact dMd_le m) (fun e => ?_)).mono ?_
  · have hm := dMd_7 (hr.md ▸ e)
    rw [hr.wd hm]
    exact ⟨hg.wd hm, hg.core.wb, hg.core.wl⟩
  · rintro e w' ⟨tv', es', d', rfl, q1, q2, q3, q4, q5, q6, q7⟩
    refine ⟨_, tv', es', d', rfl, q1, q2, q4, q5, q6, ?_⟩
    rcases hs with ⟨u, s1, s2, s3, s4, s5⟩ | ⟨m', u, s1, s2, s3, s4, s5, s6⟩
    · exact Or.inl ⟨u, s1, s2, s3, by rw [q3.2.1, s4], s5⟩
    · refine Or.inr ⟨m', u, s1, s2, ⟨_, q3, s3, fun _ => by rw [s6, hbg], fun e6 => ?_⟩, s4⟩
      obtain ⟨g1, g2, g3⟩ := q7 (by simpa using e6)
      have hm' := s5 e6
      subst hm'
      exact ⟨.inn, ⟨by rw [s6, hbg], rfl⟩, trivial, ⟨g2, g3⟩, by rw [g1]; simp [pend]⟩
set_option maxRecDepth 100000 in
set_option maxHeartbeats 4000000 in
/-- within a literal -/
theorem dstep_in {w : World} {B p : Nat} {tv : Value} {es : List Int} {d : Dc} {n : Dn} {m : Md} {t : St} {σ : XS} {k : Nat} {c : Int} (H : DcS w B p tv es d) (hn : dEq d n) (hr : DnR m t n) (h6 : n.mode = 6) (hL : Lr t σ m) (hok : xOk σ) (hx : XRep σ d.lm d.l d.n d.h d.lo d.mo) (hp : es.length + pend σ ≤ k) (hk : k + 4 ≤ 140737488355328) (hb : t.bad = 0) (he : t.ends = false) (h0 : 0 ≤ c) (h1 : c < 256) :
    Calls Tryz.prog 34 #[.pointer (some ⟨p, 0, none⟩), .int .u8 c] w (DStep w B p tv d m t k c) := by
  obtain ⟨hn1, hn2⟩ := lr_ne hL
  have C := hide (show Calls Tryz.prog 47 #[.pointer (some ⟨p, 3, none⟩), .int .u8 c] w (StepOut w B p tv es d σ c) from dStep H hx hok hn1 hn2 h0 h1 (by omega))
  have hs := sim_step hL c h0 h1
  have c1 := (dg_of H.blk).c1
  rw [hn.1, h6] at c1
  have HD := hide (show _ ∧ _ ∧ _ ∧ _ ∧ _ ∧ _ ∧ _ from ⟨hn, hr, hok, hp, hb, he, hL⟩)
  have H6 := hide h6
  have hkeys : d.keys = t.isKey := by rw [hn.2.2.1]; exact hr.ky h6
  clear H hn hr hok hx hp hk hb he hL hn1 hn2 h6
  rcases hs with ⟨s1, s2⟩ | ⟨m', t', σ', u, s1, s2, s3, s4, s5, s6, s7, s8⟩ | ⟨s1, s2, s3⟩
  · have HST := hide s1
    have HX := hide s2
    clear s1 s2 hkeys
    go_enter Tryz.func34, Tryz.ntmps34
    go_wp2_with fail
    refine C.out.mono ?_
    rintro e w1 ⟨ok, tv1, es1, lm, l1, n1, h1', lo, mo, rfl, q1, q2, q3⟩
    have hokf : ok = false := by
      rcases q3 with ⟨_, τ, u, e, _⟩ | ⟨e, _⟩
      · rw [HX.out] at e; cases e
      · exact e
    subst hokf
    have Q := hide (And.intro q1 q2)
    clear q1 q2 q3 C
    go_wp2
    go_ret
    obtain ⟨hn, hr, hok, hp, hb, he, hL⟩ := HD.out
    exact ⟨3, tv1, es1, _, rfl, Q.out.1, Q.out.2, rfl, rfl, rfl, Or.inl ⟨t, HST.out, by simp [hb], by simp, by show d.opn = _; rw [hn.2.1, hr.op], rfl⟩⟩
  · have HST := hide s1
    have HX := hide s2
    have HSS := hide (show _ ∧ _ ∧ _ ∧ _ ∧ _ ∧ _ from ⟨s3, s4, s5, s6, s7, s8⟩)
    clear s1 s2 s3 s4 s5 s6 s7 s8 hkeys
    go_enter Tryz.func34, Tryz.ntmps34
    go_wp2_with fail
    refine C.out.mono ?_
    rintro e w1 ⟨ok, tv1, es1, lm, l1, n1, h1', lo, mo, rfl, q1, q2, q3⟩
    have hokf : ok = true ∧ es1 = es ++ u ∧ XRep σ' lm l1 n1 h1' lo mo := by
      rcases q3 with ⟨e0, τ, u', e, e2, e3⟩ | ⟨_, e⟩
      · rw [HX.out] at e; cases e; exact ⟨e0, e2, e3⟩
      · rw [HX.out] at e; cases e
    obtain ⟨rfl, he1, hx1⟩ := hokf
    have c3 := (df_of q1.blk).c3
    simp only at c3
    have h7 := xrep_7 hx1 HSS.out.1
    have Q := hide (show _ ∧ _ ∧ _ ∧ _ from ⟨q1, q2, he1, hx1⟩)
    clear q1 q2 q3 C he1 hx1 c1
    go_wp2
    go_ret
    obtain ⟨hn, hr, hok, hp, hb, he, hL⟩ := HD.out
    obtain ⟨q1, q2, he1, hx1⟩ := Q.out
    obtain ⟨s3, s4, s5, s6, s7, s8⟩ := HSS.out
    refine ⟨0, tv1, es1, _, rfl, q1, q2, rfl, rfl, rfl, Or.inr ⟨m', t', HST.out, rfl, ⟨n, ⟨hn.1, hn.2.1, hn.2.2.1, hn.2.2.2⟩, ?_, fun e => absurd H6.out e, fun _ => ⟨σ', s4, xOk_step hok HX.out, hx1, ?_⟩⟩, ?_⟩⟩
    · have e6 := lr_six s4
      exact ⟨by rw [H6.out, e6], by rw [hr.op, s6], fun e => (by rw [e] at e6; cases e6), fun _ => by rw [hr.ky H6.out, s5], fun e => (by rw [e] at e6; cases e6), fun e => (by rw [e] at e6; cases e6)⟩
    · have := pend_step hok HX.out
      rw [he1]; simp only [List.length_append]; omega
    · have e6 := lr_six s4
      rw [s8, he]
      cases m' <;> first | rfl | (simp [dMd] at e6)
  · have HST := hide s1
    have HX := hide s2
    have HB := hide s3
    clear s1 s2 s3
    cases hk2 : t.isKey with
    | true =>
      rw [hk2] at hkeys
      go_enter Tryz.func34, Tryz.ntmps34
      go_wp2_with fail
      refine C.out.mono ?_
      rintro e w1 ⟨ok, tv1, es1, lm, l1, n1, h1', lo, mo, rfl, q1, q2, q3⟩
      have hokf : ok = true ∧ lm = 7 := by
        rcases q3 with ⟨e0, τ, u', e, e2, e3⟩ | ⟨_, e⟩
        · rw [HX.out] at e; cases e; exact ⟨e0, e3⟩
        · rw [HX.out] at e; cases e
      obtain ⟨rfl, rfl⟩ := hokf
      have c3 := (df_of q1.blk).c3
      have c10 := (dg_of q1.blk).c10
      have f1 := q1.frz 1
      have c1 := (dg_of q1.blk).c1
      simp only [hkeys] at c3 c10 c1
      have Q := hide (And.intro q1 q2)
      clear q1 q2 q3 C
      go_wp2
      go_ret
      obtain ⟨hn, hr, hok, hp, hb, he, hL⟩ := HD.out
      obtain ⟨q1, q2⟩ := Q.out
      refine ⟨0, tv1, es1, _, rfl, (q1.mode 5).mode 4, (q2.setP _).setP _, rfl, rfl, rfl, Or.inr ⟨.colon, t, by rw [HST.out]; unfold unquotedB; rw [if_pos hk2]; rfl, rfl, ⟨{ n with mode := 4 }, ⟨rfl, hn.2.1, hn.2.2.1, hn.2.2.2⟩, ⟨rfl, hr.op, nofun, nofun, nofun, nofun⟩, fun _ => HB.out, nofun⟩, he⟩⟩
    | false =>
      rw [hk2] at hkeys
      go_enter Tryz.func34, Tryz.ntmps34
      go_wp2_with fail
      refine C.out.mono ?_
      rintro e w1 ⟨ok, tv1, es1, lm, l1, n1, h1', lo, mo, rfl, q1, q2, q3⟩
      have hokf : ok = true ∧ lm = 7 := by
        rcases q3 with ⟨e0, τ, u', e, e2, e3⟩ | ⟨_, e⟩
        · rw [HX.out] at e; cases e; exact ⟨e0, e3⟩
        · rw [HX.out] at e; cases e
      obtain ⟨rfl, rfl⟩ := hokf
      have c3 := (df_of q1.blk).c3
      have c10 := (dg_of q1.blk).c10
      have f1 := q1.frz 1
      have c1 := (dg_of q1.blk).c1
      simp only [hkeys] at c3 c10 c1
      have Q := hide (And.intro q1 q2)
      clear q1 q2 q3 C
      go_wp2
      go_ret
      obtain ⟨hn, hr, hok, hp, hb, he, hL⟩ := HD.out
      obtain ⟨q1, q2⟩ := Q.out
      refine ⟨0, tv1, es1, _, rfl, q1.mode 5, q2.setP _, rfl, rfl, rfl, Or.inr ⟨.behind, { t with ends := true }, by rw [HST.out]; unfold unquotedB; rw [if_neg (by rw [hk2]; simp)]; rfl, rfl, ⟨{ n with mode := 5 }, ⟨rfl, hn.2.1, hn.2.2.1, hn.2.2.2⟩, ⟨rfl, hr.op, nofun, nofun, nofun, nofun⟩, fun _ => HB.out, nofun⟩, rfl⟩⟩
theorem dstep {w : World} {B p : Nat} {tv : Value} {es : List Int} {d : Dc} {m : Md} {t : St} {k : Nat} {c : Int} (H : DcS w B p tv es d) (hR : DRel m t d es k) (hg : Good m t) (hk : k + 4 ≤ 140737488355328) (hb : t.bad = 0) (he : t.ends = false) (h0 : 0 ≤ c) (h1 : c < 256) :
    Calls Tryz.prog 34 #[.pointer (some ⟨p, 0, none⟩), .int .u8 c] w (DStep w B p tv d m t k c) := by
  obtain ⟨n, hn, hr, hbg, hlit⟩ := hR
  by_cases h6 : n.mode = 6
  · obtain ⟨σ, g1, g2, g3, g4⟩ := hlit h6
    exact dstep_in H hn hr h6 g1 g2 g3 g4 hk hb he h0 h1
  · exact dstep_out H hn hr (hbg h6) h6 hg hb he h0 h1

end Go.Proofs.YtefmlajndillbaaGreatDoor
