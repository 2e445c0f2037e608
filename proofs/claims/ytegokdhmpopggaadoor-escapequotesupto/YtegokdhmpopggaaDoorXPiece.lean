/- escape: encoding, piece, literal -/
import Derived.Test.YtegokdhmpopggaaDoorXEnc
namespace Go.Proofs.YtegokdhmpopggaaDoor
open Go.RowKit
set_option linter.unusedVariables false

theorem ls_cut {s : ByteArray} {ls : List Int} (hs : s = strOfNums ls) (k n : Nat) : s.extract k n = strOfNums ((ls.take n).drop k) := by rw [hs, utxt_cut]
theorem uFst_le {ls : List Int} {k : Nat} (hk : k ≤ ls.length) : uFst ls k = uDec (ls.drop k) := by
  unfold uFst
  by_cases h : k < ls.length
  · rw [if_pos (by omega)]; rfl
  · rw [if_neg (by omega), List.drop_of_length_le (by omega)]; rfl

theorem begun_bad {ls : List Int} {k m : Nat} {t : List Int} (hb : uByt ls) (hk : k ≤ ls.length) (hn : (uDec (ls.drop k)).2 = 0) (h1 : m ≤ (ls.drop k).length) (h2 : ∀ j, j < m → xBeg ((ls.drop k).take (j + 1)) = true) (h3 : m < (ls.drop k).length → xBeg ((ls.drop k).take (m + 1)) = false) : XBad ls k .inn t (k + m) := by
  obtain ⟨σ, u, g1, g2, g3⟩ := xBegun (t := t) (hb.drop k) hn h1 h2 h3
  rw [List.length_drop] at h1
  refine ⟨σ, u, ⟨by omega, by omega, by rw [show k + m - k = m by omega]; exact g1⟩, fun hj => g3 _ (ls.drop (k + m + 1)) ?_⟩
  rw [List.drop_drop, udrop_lb hj]
theorem enc_on {ls : List Int} {k n : Nat} {p : Int} {t : List Int} (hp : uPt p = true) (hl : (uEnc p).length = n) (hs : ls.drop k = uEnc p ++ (ls.drop k).drop n) (hk : k ≤ ls.length) (h0 : 32 ≤ Nt.lb ls k) (h1 : Nt.lb ls k ≠ 34) (h2 : Nt.lb ls k ≠ 92) : XOn ls k .inn t (k + n) .inn (t ++ uEnc p) := by
  have hd : n ≤ (ls.drop k).length := by rw [hs, List.length_append]; omega
  rw [List.length_drop] at hd
  have e : (ls.drop k).take n = uEnc p := by rw [hs, ← hl, List.take_left]
  have hpos := uEnc_pos p
  have hlb : Nt.lb ls k = Nt.lb (uEnc p) 0 := by
    have : Nt.lb ls k = Nt.lb (ls.drop k) 0 := by simp [Nt.lb, List.getElem?_drop]
    rw [this, hs]
    simp [Nt.lb, List.getElem?_append_left hpos]
  have hq := uPt_iff.1 hp
  refine ⟨by omega, by omega, ?_⟩
  rw [show k + n - k = n by omega, e]
  rw [hlb] at h0 h1 h2
  unfold uEnc at h0 h1 h2
  by_cases g : p < 128
  · rw [if_pos g] at h0 h1 h2
    simp [Nt.lb] at h0 h1 h2
    exact xGo_enc hp h0 h1 h2
  · exact xGo_enc hp (by omega) (by omega) (by omega)

set_option maxRecDepth 100000 in
set_option maxHeartbeats 4000000 in
theorem enc_rk {B b k : Nat} {s : ByteArray} {ls es : List Int} {w0 w : World} (h : RK B b s ls k es w0 w) (hes : es.length ≤ k) (hq : k < ls.length → Nt.lb ls k ≠ 34 ∧ Nt.lb ls k ≠ 92) :
    Calls Tryd.prog 54 #[.pointer (some ⟨b, 0, none⟩)] w fun e w' => ∃ ok, e = .returned (.bool ok) ∧ XPiece B b s ls .inn k es w0 w' ok := by
  have H := hide h
  have hlen := h.len
  have hle := h.le
  have hsz : s.size = ls.length := by rw [h.str, strOfNums_size]
  have c0 := h.rd.c0
  have c1 := h.rd.c1
  have f1 := h.rd.f1
  have hb := h.rd.lt
  have HF := hide (fun W => first_any (w := W) (s := s) (es := ls) (at_ := (k : Int)) h.byt h.str (by omega))
  rw [uFst_le hle] at HF
  have HB := hide (fun W => begun_any (w := W) (s := s.extract k s.size) (us := ls.drop k) (h.byt.drop k) (by rw [ls_cut h.str, hsz, List.take_length]) (by rw [List.length_drop]; omega))
  have hkl : k ≤ s.size := by omega
  have hkm : k ≤ 140737488351232 := by omega
  by_cases hn : (uDec (ls.drop k)).2 = 0
  · have e0 := uDec_zero hn
    rw [e0] at HF
    have HN := hide hn
    obtain ⟨L, hL⟩ : ∃ L, s.size = L := ⟨_, rfl⟩
    rw [hL] at HB hkl
    have HL := hide hsz
    clear h hq hsz hn e0
    go_enter Tryd.func54, Tryd.ntmps54
    go_upto_region 1 with fail
    go_quiet ((go_at_call 44; exact Calls.quiet_of_same (HF.out _)))
    go_upto_region 3 with fail
    go_region_with (go_at_call 62; refine (HB.out _).mono ?_; rintro e w' ⟨m, rfl, h1, h2, h3, rfl⟩)
    all_goals
      have hmk : IntKind.i64.wrap ((k : Int) + (m : Int)) = ((k + m : Nat) : Int) := by
        have := h1
        rw [List.length_drop] at this
        rw [IntKind.wrap_i64]
        omega
      have hbad := begun_bad (t := es) H.out.byt H.out.le HN.out h1 h2 h3
      have hjl : k + m ≤ ls.length := by have := h1; rw [List.length_drop] at this; omega
      have h9 := H.out.on (bel_drewN _ w (nq + 1))
      have hmv := h9.rd.move hmk
      have HP := hide (show XPiece B b s ls .inn k es w0 _ false from ⟨k + m, es, hmv.1, hjl, h9.bel.trans hmv.2, .inr ⟨rfl, hbad⟩⟩)
      clear hmk hbad h9 hmv h1 h2 h3 HF HB c0 c1 f1
      go_wp2
      go_ret
      exact ⟨_, rfl, HP.out⟩
  · have hlt : k < ls.length := by
      rcases Nat.lt_or_ge k ls.length with g | g
      · exact g
      · rw [List.drop_of_length_le g] at hn; exact absurd rfl hn
    obtain ⟨hp, hpl, hps⟩ := uDec_cases (h.byt.drop k) hn
    obtain ⟨⟨p, n⟩, hD⟩ : ∃ q, uDec (ls.drop k) = q := ⟨_, rfl⟩
    rw [hD] at HF hp hpl hps hn
    simp only at HF hp hpl hps hn
    have bn : (n != 0) = true := by simpa using hn
    rw [bn] at HF
    have hks : k < s.size := by omega
    have hx : (((s[k]'hks).toNat : Nat) : Int) = Nt.lb ls k := by
      have hs := h.str
      subst hs
      exact utxt_at hks h.byt
    have hnl : k + n ≤ ls.length := by
      have := congrArg List.length hps
      rw [List.length_append, List.length_drop, hpl] at this
      omega
    have hq' := hq hlt
    have hon := fun g => enc_on (t := es) hp hpl hps hle g hq'.1 hq'.2
    have hstr : s.extract k (k + n) = strOfNums (uEnc p) := by
      rw [ls_cut h.str]
      congr 1
      rw [List.drop_take, show k + n - k = n by omega]
      rw [hps, ← hpl, List.take_left]
    have hn4 : n ≤ 4 := by rw [← hpl]; exact uEnc_le p
    have HST := hide hstr
    have HON := hide hon
    have HP1 := hide hpl
    obtain ⟨L, hL⟩ : ∃ L, s.size = L := ⟨_, rfl⟩
    have q2 : k < L := by omega
    have q5 : k + n ≤ L := by omega
    have g1 : (0 : Int) ≤ (k : Int) := by omega
    have g2 : (k : Int) ≤ (k : Int) + (n : Int) := by omega
    have g3 : (k : Int) + (n : Int) ≤ (L : Int) := by omega
    have g4 : IntKind.i64.wrap ((k : Int) + (n : Int)) = (k : Int) + (n : Int) := by rw [IntKind.wrap_i64]; omega
    have g5 : ((k : Int) + (n : Int)).toNat = k + n := by omega
    have HQ := hide hq'
    have HL := hide (show L = ls.length by omega)
    obtain ⟨c, hcc⟩ : ∃ c, Nt.lb ls k = c := ⟨_, rfl⟩
    rw [hcc] at hx
    have HC := hide hcc
    have hnn : n ≠ 0 := hn
    clear h hq hsz hn hp hpl hps hD bn hon hstr hcc hlt hnl hq' HB
    by_cases hc : 32 ≤ c
    · have hsp : xSp c [(0, 31)] = false := by
        cases g : xSp c [(0, 31)]
        · rfl
        · rw [xSp_one] at g; omega
      have HI := hide (fun W => in_any (c := c) (sp_new1 W 0 31) (by simp))
      rw [hsp] at HI
      replace hc := hide hc
      clear hsp
      go_enter Tryd.func54, Tryd.ntmps54
      go_upto_region 1 with fail
      go_quiet ((go_at_call 44; exact Calls.quiet_of_same (HF.out _)))
      go_upto_region 5 with fail
      have K : Below w.heap.size w (w.drewN nq).drew := (bel_drewN _ _ _).drew
      go_region_held3 (fun w' => w'.cell? ⟨b, 0, none⟩ = some (.string s) ∧ w'.cell? ⟨b, 1, none⟩ = some (.int .i64 k))
        (first
          | exact ⟨by rw [(ubcell0 K).1 _ _ hb]; exact c0, by rw [(ubcell0 K).1 _ _ hb]; exact c1⟩
          | go_keep)
        (first | (go_at_call 34; refine (HI.out _).mono ?_; rintro e w2 ⟨rfl, hb2⟩; replace K := (K.alloc K.size _).trans (hb2.mono (Nat.le_trans K.size (by simp))); clear hb2))
      all_goals
        have H2 := hide (H.out.on K)
        have d0 := H2.out.rd.c0
        have d1 := H2.out.rd.c1
        have hb2 := H2.out.rd.lt
        have z2 := H2.out.rd.small
        clear K c0 c1 f1 HF HI
        go_upto_region 7 with fail
        have HR := hide (H2.out.rd.below ((Below.refl _ _).drew))
        have HW := hide (Rdr.str (xs := uEnc p) HR.out (by rw [HP1.out]; omega) z2)
        rw [← HST.out, HP1.out] at HW
        go_region_held3 (fun w' => w'.cell? ⟨b, 0, none⟩ = some (.string s) ∧ w'.cell? ⟨b, 1, none⟩ = some (.int .i64 k))
          (first
            | exact ⟨HR.out.c0, HR.out.c1⟩
            | go_keep)
          (first | (go_at_call 37; refine HW.out.mono ?_; rintro e w3 ⟨rfl, h3, k3⟩; have HB3 := hide ((H2.out.bel.drew).trans k3); clear k3; replace HR := hide h3; clear h3))
        all_goals
          have e1 := HR.out.c1
          have f1 := HR.out.f1
          have HM := hide (HR.out.move (j := k + n) (z := (k : Int) + (n : Int)) (by omega))
          clear HW H2 d0 d1
          go_wp2
          go_ret
          exact ⟨_, rfl, k + n, es ++ uEnc p, HM.out.1, by rw [← HL.out]; exact q5, HB3.out.trans HM.out.2, .inl ⟨rfl, by omega, by rw [List.length_append, HP1.out]; omega, HON.out (by rw [HC.out]; exact hc.out)⟩⟩
    · have hsp : xSp c [(0, 31)] = true := xSp_one.2 ⟨by have := H.out.byt _ (List.getElem_mem (show k < ls.length by rw [← HL.out]; omega)); have g := HC.out; simp [Nt.lb, show k < ls.length by rw [← HL.out]; omega] at g; omega, by omega⟩
      have HI := hide (fun W => in_any (c := c) (sp_new1 W 0 31) (by simp))
      rw [hsp] at HI
      have HX := hide (show xStep .inn c = none from xIn_none (by omega))
      clear hsp
      go_enter Tryd.func54, Tryd.ntmps54
      go_upto_region 1 with fail
      go_quiet ((go_at_call 44; exact Calls.quiet_of_same (HF.out _)))
      go_upto_region 5 with fail
      have K : Below w.heap.size w (w.drewN nq).drew := (bel_drewN _ _ _).drew
      go_region_held3 (fun w' => w'.cell? ⟨b, 0, none⟩ = some (.string s) ∧ w'.cell? ⟨b, 1, none⟩ = some (.int .i64 k))
        (first
          | exact ⟨by rw [(ubcell0 K).1 _ _ hb]; exact c0, by rw [(ubcell0 K).1 _ _ hb]; exact c1⟩
          | go_keep)
        (first | (go_at_call 34; refine (HI.out _).mono ?_; rintro e w2 ⟨rfl, hb2⟩; replace K := (K.alloc K.size _).trans (hb2.mono (Nat.le_trans K.size (by simp))); clear hb2))
      all_goals
        have HP := hide (show XPiece B b s ls .inn k es w0 _ false from ⟨k, es, (H.out.on K).rd, H.out.le, (H.out.on K).bel, .inr ⟨rfl, XBad.stop H.out.le (fun _ => by rw [HC.out]; exact HX.out)⟩⟩)
        clear K c0 c1 f1 HF HI hx hL q2 q5
        go_wp2
        go_ret
        exact ⟨_, rfl, HP.out⟩

end Go.Proofs.YtegokdhmpopggaaDoor
