/- escape: letter, begins, begun, encoding -/
import Derived.Test.YtegokdhmpopggaaDoorXUnits
namespace Go.Proofs.YtegokdhmpopggaaDoor
open Go.RowKit
set_option linter.unusedVariables false

theorem xStr_none {c : Int} (h : xLet c = -1) (h2 : c ≠ 117) : xStep .stroke c = none := by
  show xStr c = _
  unfold xStr; rw [if_neg (by simp [h]), if_neg h2]
theorem xLet_rng {c : Int} (h : xLet c ≠ -1) : 0 ≤ xLet c ∧ xLet c < 256 := by
  unfold xLet at h ⊢
  split; simp
  split; simp
  split; simp
  split; simp
  split; simp
  split; simp
  split; simp
  split; simp
  simp_all

set_option maxRecDepth 100000 in
set_option maxHeartbeats 4000000 in
theorem letter_rk {B b k : Nat} {s : ByteArray} {ls es : List Int} {w0 w : World} (h : RK B b s ls k es w0 w) (hes : es.length ≤ k) (ht : Tab w) (hG : 12 < B) (hu : k < ls.length → Nt.lb ls k ≠ 117) :
    Calls Tryd.prog 56 #[.pointer (some ⟨b, 0, none⟩)] w fun e w' => ∃ ok, e = .returned (.bool ok) ∧ XPiece B b s ls .stroke k es w0 w' ok := by
  have H := hide h
  have hlen := h.len
  have hle := h.le
  have hsz : s.size = ls.length := by rw [h.str, strOfNums_size]
  have c0 := h.rd.c0
  have c1 := h.rd.c1
  have hb := h.rd.lt
  by_cases hlt : k < ls.length
  · have hks : k < s.size := by omega
    have hx : (((s[k]'hks).toNat : Nat) : Int) = Nt.lb ls k := by
      have hs := h.str
      subst hs
      exact utxt_at hks h.byt
    have hc : 0 ≤ Nt.lb ls k ∧ Nt.lb ls k < 256 := by have := h.byt _ (List.getElem_mem hlt); simpa [Nt.lb, hlt] using this
    have hu' := hu hlt
    obtain ⟨L, hL⟩ : ∃ L, s.size = L := ⟨_, rfl⟩
    have q1 : ((k : Int) == (L : Int)) = false := beq_eq_false_iff_ne.2 (by omega)
    have q2 : k < L := by omega
    have q3 : k ≤ 140737488351232 := by omega
    obtain ⟨c, hcc⟩ : ∃ c, Nt.lb ls k = c := ⟨_, rfl⟩
    rw [hcc] at hx hc hu'
    have HT := hide ht
    have HS := hide (fun (W : World) (hb : Below w.heap.size w W) => saidBy_any (w := W) (c := c) (HT.out.below HT.out.1 hb))
    have HK := hide hlt
    have HC := hide hcc
    have HU := hide hu'
    clear hsz hu h hlt hcc hu' ht
    by_cases hv : xLet c = -1
    · rw [hv] at HS
      simp only [if_true, ne_eq, not_true_eq_false, decide_false] at HS
      go_enter Tryd.func56, Tryd.ntmps56
      go_upto_region 1 with fail
      go_quiet (fail)
      go_upto_region 3 with fail
      have K : Below w.heap.size w (w.drewN nq).drew := (bel_drewN _ _ _).drew
      go_region_held3 (fun w' => w'.cell? ⟨b, 0, none⟩ = some (.string s) ∧ w'.cell? ⟨b, 1, none⟩ = some (.int .i64 k))
        (first
          | exact ⟨by rw [(ubcell0 K).1 _ _ hb]; exact c0, by rw [(ubcell0 K).1 _ _ hb]; exact c1⟩
          | go_keep)
        (first | (go_at_call 67; refine (HS.out _ K).mono ?_; rintro e w2 ⟨rfl, hb2⟩; replace K := K.trans (hb2.mono K.size); clear hb2))
      have HP := hide (show XPiece B b s ls .stroke k es w0 _ false from ⟨k, es, (H.out.on K).rd, H.out.le, (H.out.on K).bel, .inr ⟨rfl, XBad.stop H.out.le (fun _ => by rw [HC.out]; exact xStr_none hv HU.out)⟩⟩)
      clear K HS c0 c1 hx hc q1 q2 hL
      go_wp2
      go_ret
      exact ⟨_, rfl, HP.out⟩
    · have hr := xLet_rng hv
      rw [if_neg hv] at HS
      simp only [ne_eq, hv, not_false_eq_true, decide_true] at HS
      obtain ⟨d, hd⟩ : ∃ d, xLet c = d := ⟨_, rfl⟩
      rw [hd] at HS hr
      have HV := hide hv
      have HD := hide hd
      clear hv hd
      go_enter Tryd.func56, Tryd.ntmps56
      go_upto_region 1 with fail
      go_quiet (fail)
      go_upto_region 3 with fail
      have K : Below w.heap.size w (w.drewN nq).drew := (bel_drewN _ _ _).drew
      go_region_held3 (fun w' => w'.cell? ⟨b, 0, none⟩ = some (.string s) ∧ w'.cell? ⟨b, 1, none⟩ = some (.int .i64 k))
        (first
          | exact ⟨by rw [(ubcell0 K).1 _ _ hb]; exact c0, by rw [(ubcell0 K).1 _ _ hb]; exact c1⟩
          | go_keep)
        (first | (go_at_call 67; refine (HS.out _ K).mono ?_; rintro e w2 ⟨rfl, hb2⟩; replace K := K.trans (hb2.mono K.size); clear hb2))
      have H2 := hide (H.out.on K)
      have z2 := H2.out.rd.small
      clear K HS c0 c1 hx hc q1 q2 hL
      go_wp2_with fail
      refine (H2.out.rd.byte (c := d) hr.1 hr.2 (by omega) z2).mono ?_
      rintro e w3 ⟨rfl, h3, k3⟩
      have e1 := h3.c1
      have f1 := h3.f1
      have HM := hide (h3.move (j := k + 1) (z := (k : Int) + 1) (by omega))
      have HB := hide (H2.out.bel.trans k3)
      clear h3 k3 H2
      go_wp2
      go_ret
      exact ⟨_, rfl, k + 1, es ++ [d], HM.out.1, HK.out, HB.out.trans HM.out.2, .inl ⟨rfl, by omega, by simp; omega, XOn.step HK.out (by rw [HC.out, xStr_let HV.out, HD.out]) (by simp)⟩⟩
  · obtain ⟨L, hL⟩ : ∃ L, s.size = L := ⟨_, rfl⟩
    have q1 : ((k : Int) == (L : Int)) = true := by rw [show k = L by omega]; simp
    have HK := hide hlt
    clear hsz hu h hlt ht
    go_enter Tryd.func56, Tryd.ntmps56
    go_upto_region 1 with fail
    go_quiet (fail)
    have HP := hide (show XPiece B b s ls .stroke k es w0 (w.drewN nq) false from ⟨k, es, (H.out.on (bel_drewN _ _ _)).rd, H.out.le, (H.out.on (bel_drewN _ _ _)).bel, .inr ⟨rfl, XBad.stop H.out.le (fun g => absurd g HK.out)⟩⟩)
    go_wp2
    go_ret
    exact ⟨_, rfl, HP.out⟩

set_option maxRecDepth 100000 in
set_option maxHeartbeats 4000000 in
theorem begins_any {w : World} {s : ByteArray} {us : List Int} (hb : uByt us) (hs : s = strOfNums us) (hl : us.length ≤ 140737488351232) :
    Calls Tryd.prog 68 #[.string s] w fun e w' => e = .returned (.bool (xBeg us)) ∧ w' = w := by
  have hsz : s.size ≤ 140737488351232 := by rw [hs, strOfNums_size]; exact hl
  have f : ∀ xs : List Int, uFst (us ++ xs) 0 = if us ++ xs = [] then (0, 0) else uDec (us ++ xs) := fun xs => by
    unfold uFst
    by_cases g : us ++ xs = []
    · rw [g]; rfl
    · rw [if_pos ⟨by omega, by have := List.length_pos_iff.2 g; omega⟩, if_neg g]; rfl
  have H1 := hide (fun W => first_any (w := W) (s := s ++ ⟨#[128, 128, 128]⟩) (es := us ++ [128, 128, 128]) (at_ := 0) (hb.append (fun x hx => by simp at hx; omega)) (by rw [hs, ← utxt_join]; rfl) (by simp; omega))
  have H2 := hide (fun W => first_any (w := W) (s := s ++ ⟨#[191, 191, 191]⟩) (es := us ++ [191, 191, 191]) (at_ := 0) (hb.append (fun x hx => by simp at hx; omega)) (by rw [hs, ← utxt_join]; rfl) (by simp; omega))
  rw [f, if_neg (by simp)] at H1 H2
  unfold xBeg
  obtain ⟨⟨p1, n1⟩, e1⟩ : ∃ q, uDec (us ++ [128, 128, 128]) = q := ⟨_, rfl⟩
  obtain ⟨⟨p2, n2⟩, e2⟩ : ∃ q, uDec (us ++ [191, 191, 191]) = q := ⟨_, rfl⟩
  rw [e1] at H1 ⊢
  rw [e2] at H2 ⊢
  simp only at H1 H2 ⊢
  obtain ⟨b1, g1⟩ : ∃ b, (n1 != 0) = b := ⟨_, rfl⟩
  obtain ⟨b2, g2⟩ : ∃ b, (n2 != 0) = b := ⟨_, rfl⟩
  rw [g1] at H1 ⊢
  rw [g2] at H2 ⊢
  clear e1 e2 g1 g2 f hs hb
  cases b1
  all_goals
    go_enter Tryd.func68, Tryd.ntmps68
    go_wp2_with (go_at_call 44; first | ((with_reducible refine (H1.out _).mono ?_); rintro e w' ⟨rfl, rfl⟩) | ((with_reducible refine (H2.out _).mono ?_); rintro e w' ⟨rfl, rfl⟩))
    go_ret
    exact ⟨rfl, rfl⟩

set_option maxRecDepth 100000 in
set_option maxHeartbeats 4000000 in
theorem begun_any {w : World} {s : ByteArray} {us : List Int} (hb : uByt us) (hs : s = strOfNums us) (hl : us.length ≤ 140737488351232) :
    Calls Tryd.prog 62 #[.string s] w fun e w' => ∃ m : Nat, e = .returned (.int .i64 m) ∧ m ≤ us.length ∧ (∀ j, j < m → xBeg (us.take (j + 1)) = true) ∧ (m < us.length → xBeg (us.take (m + 1)) = false) ∧ w' = w := by
  have hsz : s.size = us.length := by rw [hs, strOfNums_size]
  have HB := hide (fun (W : World) (n : Nat) (hn : n ≤ us.length) => begins_any (w := W) (s := s.extract 0 n) (us := us.take n) (fun x hx => hb x (List.mem_of_mem_take hx)) (by rw [hs, utxt_cut]; rfl) (by rw [List.length_take]; omega))
  clear hs hb
  obtain ⟨L, hL⟩ : ∃ L, us.length = L := ⟨_, rfl⟩
  rw [hL] at hsz hl HB ⊢
  clear hL
  go_enter Tryd.func62, Tryd.ntmps62
  go_wp2
  go_loopg [3] L (fun c n wr => ∃ m : Nat, n = .int .i64 m ∧ m ≤ L ∧ c = L - m ∧ Hid (∀ j, j < m → xBeg (us.take (j + 1)) = true) ∧ w = wr)
  case atStart => exact ⟨0, rfl, by omega, rfl, hide (fun j hj => absurd hj (by omega)), rfl⟩
  case round =>
    obtain ⟨m, rfl, hm, hc, HJ, rfl⟩ := hrel
    by_cases hlt : m < L
    · have p1 : (m : Int) < (L : Int) := by omega
      have p2 : m + 1 ≤ L := by omega
      have HX := hide (HB.out w (m + 1) p2)
      have q1 : (0 : Int) ≤ (m : Int) + 1 := by omega
      have q2 : (m : Int) + 1 ≤ (L : Int) := by omega
      have q3 : ((m : Int) + 1).toNat = m + 1 := by omega
      cases hx : xBeg (us.take (m + 1)) with
      | true =>
        rw [hx] at HX
        replace hx := hide hx
        go_wp2_with (go_at_call 68; refine HX.out.mono ?_; rintro e w' ⟨rfl, rfl⟩)
        go_roundg (L - (m + 1))
        case measure => omega
        case rel => exact ⟨m + 1, by simp, by omega, rfl, hide (fun j hj => by
          rcases Nat.lt_or_ge j m with g | g
          · exact HJ.out j g
          · rw [show j = m by omega]; exact hx.out), rfl⟩
      | false =>
        rw [hx] at HX
        replace hx := hide hx
        go_wp2_with (go_at_call 68; refine HX.out.mono ?_; rintro e w' ⟨rfl, rfl⟩)
        go_ret
        exact ⟨m, rfl, hm, HJ.out, fun _ => hx.out, rfl⟩
    · have p1 : ¬ (m : Int) < (L : Int) := by omega
      go_wp2
      go_ret
      exact ⟨m, rfl, hm, HJ.out, fun g => absurd g hlt, rfl⟩

end Go.Proofs.YtegokdhmpopggaaDoor
