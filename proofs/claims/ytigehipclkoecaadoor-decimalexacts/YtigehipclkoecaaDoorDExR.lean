/- crucibleref07.Exact -/
import Derived.Test.YtigehipclkoecaaDoorDLawX
import Derived.Test.YtigehipclkoecaaDoorRPt
import Derived.Test.YtigehipclkoecaaDoorDRef7
import Derived.Test.YtigehipclkoecaaDoorDTw
namespace Go.Proofs.YtigehipclkoecaaDoor
open Go.RowKit
set_option linter.unusedVariables false

theorem own_one64 (w : World) (x : Int) : (w.alloc (.cells #[.int .i64 x] 3)).ownsRow w.heap.size 3 1 (.slice (some ⟨w.heap.size, 0, none⟩) 1 1) 1 ([x].map (Value.int .i64)) := by
  refine ⟨by simp, Or.inr ⟨w.heap.size, 1, #[.int .i64 x], rfl, Nat.le_refl _, heap_alloc_new _ _, Nat.le_refl _, by unfold maxLen; omega, by simp, by simp⟩⟩
theorem txt_conv {w : World} {v : Value} {zs : List Int} (h : Reads .u8 w v zs) (hn : 0 < zs.length) : (convert 42 9 v).run Tryd.prog w = .ok (.string (strOfNums zs)) w := by
  obtain ⟨ao, cap, rfl, h2, h3, h4⟩ := h
  obtain ⟨b, off, rfl, _, e3⟩ := h4 hn
  refine run_convert_bytes_arg w 42 5 Tryd.underlying42 Tryd.underlying5 b off zs.length cap zs rfl ?_ 9 Tryd.underlying9
  intro i hi
  rw [e3 i hi]; simp [Nt.lb]
/-- digits by doubling and halving spell the pattern's number -/
theorem exw_of {F L s m E : Int} {k : Nat} {l : List Int} {P a b : Nat} (hF : 0 < F) (hs : 0 < s) (hL : L ≤ 0) (hm : mst F s = m * p2 k) (he : E = est F L s + k) (m0 : 0 < m) (hd : Dz l) (hP : P ≤ l.length)
    (hv : dz l * p2 (-E).toNat = m * p2 E.toNat * tn (l.length - P)) (hb : Btw (l.map (48 + ·)) l.length a b) :
    ExW F L s (((l.map (48 + ·)).take b).drop a) ((P : Int) - a) ∧ b ≤ l.length ∧ a ≤ b := by
  obtain ⟨h1, h2, h3, h4, h5, h6⟩ := hb
  have hlen : (l.map (48 + ·)).length = l.length := by simp
  generalize hes : l.map (48 + ·) = es at *
  have e0 := est_ge (L := L) (s := s) hF
  have hdg : dg es = dz l := by rw [← hes]; exact dz_dg l
  have hD : Dg es := by rw [← hes]; exact hd.dg
  have T := tn_pos (l.length - P)
  have pe := p2_pos E.toNat
  have lp : 0 < dz l := by
    have a1 : 0 < m * p2 E.toNat * tn (l.length - P) := Int.mul_pos (Int.mul_pos m0 pe) T
    rw [← hv] at a1
    rcases Int.lt_or_le 0 (dz l) with c | c
    · exact c
    · have := Int.mul_nonpos_of_nonpos_of_nonneg c (Int.le_of_lt (p2_pos (-E).toNat)); omega
  have ab : a < b := by
    rcases Nat.lt_or_ge a b with c | c
    · exact c
    · exfalso
      have e1 := h6 (by omega)
      have e2 : es = List.replicate es.length 48 := dg_all (fun j hj => h3 j (by omega))
      rw [e2, dg_noughts] at hdg
      omega
  obtain ⟨n0, n1⟩ := h5 ab
  obtain ⟨nm, nl⟩ := nm_between (N := l.length) hD hlen ab h2 n0 n1
  have bt := dg_between (es := es) (f := a) (e := b) (by omega) h1 h3 (fun j g1 g2 => h4 j g1 (by omega))
  refine ⟨⟨nm, fun z => by omega, fun _ => by rw [nl]; omega, ?_⟩, h2, h1⟩
  rw [nl]
  generalize dg ((es.take b).drop a) = X at *
  have q : (P : Int) - a - ((b - a : Nat) : Int) = (P : Int) - b := by omega
  rw [q]
  have hv2 : X * p2 (-E).toNat * tn (l.length - b) = m * p2 E.toNat * tn (l.length - P) := by
    rw [← hv, ← hdg, bt, hlen]; ac_rfl
  have hv3 := (tn_shift_eq (x' := ((P : Int) - b).toNat) (y' := (-((P : Int) - b)).toNat) (by omega)).1 hv2
  have um1 : um F L L s = m * p2 (E - L).toNat := by
    rw [um_here, hm, Int.mul_assoc, ← p2_add]; congr 2; omega
  rw [um1]
  rcases Int.lt_or_le E 0 with c | c
  · rw [show E.toNat = 0 by omega, show p2 0 = 1 from rfl, Int.mul_one] at hv3
    have e1 : p2 (-L).toNat = p2 (-E).toNat * p2 (E - L).toNat := by rw [← p2_add]; congr 1; omega
    rw [e1]
    have : X * tn ((P : Int) - b).toNat * (p2 (-E).toNat * p2 (E - L).toNat) = X * p2 (-E).toNat * tn ((P : Int) - b).toNat * p2 (E - L).toNat := by ac_rfl
    rw [this, hv3]; ac_rfl
  · rw [show (-E).toNat = 0 by omega, show p2 0 = 1 from rfl, Int.mul_one] at hv3
    have e1 : p2 (E - L).toNat = p2 E.toNat * p2 (-L).toNat := by rw [← p2_add]; congr 1; omega
    rw [e1, hv3]; ac_rfl

def ExR (F L I s : Int) (ng : Bool) (e : Ending) : Prop :=
  (I ≤ s ∧ e = .returned (.tuple #[.agg #[.bool false, .string ⟨#[]⟩, .int .i64 0], .bool false])) ∨
  (s < I ∧ ∃ ds pt, e = .returned (.tuple #[.agg #[.bool ng, .string (strOfNums ds), .int .i64 pt], .bool true]) ∧ ExW F L s ds pt)

set_option maxRecDepth 100000 in
set_option maxHeartbeats 8000000 in
theorem rexact7 {w : World} {W F L I s x : Int} {ng : Bool} (hF : 0 < F) (hL : L ≤ 0) (s0 : 0 ≤ s)
    (hp : ∀ w : World, Calls Tryd.prog 12 #[.int .i64 W, .int .u64 x] w fun e w' => ∃ a m E ok, e = .returned (.tuple #[.bool a, .int .u64 m, .int .i64 E, .bool ok]) ∧ PartIs F L I s ng a m E ok ∧ Below w.heap.size w w')
    (hq : ∀ a m E ok, PartIs F L I s ng a m E ok → 0 ≤ m ∧ m < 9223372036854775808 ∧ -1100 ≤ E ∧ E ≤ 2200) :
    Calls Tryd.prog 6 #[.int .i64 W, .int .u64 x] w fun e w' => Below w.heap.size w w' ∧ ExR F L I s ng e := by
  have HP := hide hp
  have HQ := hide hq
  clear hp hq
  have K0 : Below w.heap.size w (w.alloc (.cells #[.bool false, .string ⟨#[]⟩, .int .i64 0] 25)) := al_one _ _
  have C := cell3_new w (.bool false) (.string ⟨#[]⟩) (.int .i64 0) 25
  have F0 : ∀ i, (w.alloc (.cells #[.bool false, .string ⟨#[]⟩, .int .i64 0] 25)).frozen? ⟨w.heap.size, i, none⟩ = false := fun i => World.frozen?_alloc_at _ _ _ _ rfl
  have lt0 : w.heap.size < (w.alloc (.cells #[.bool false, .string ⟨#[]⟩, .int .i64 0] 25)).heap.size := by simp
  go_enter Tryd.func6, Tryd.ntmps6
  go_wp2_with fail
  generalize w.alloc (.cells #[.bool false, .string ⟨#[]⟩, .int .i64 0] 25) = w0 at *
  refine (HP.out w0).mono ?_
  rintro z w1 ⟨a, m, E, ok, rfl, hP, b1⟩
  obtain ⟨m0, m1, E0, E1⟩ := HQ.out a m E ok hP
  have fin : ∀ wr : World, Below w0.heap.size w0 wr → (wr.cell? ⟨w.heap.size, 0, none⟩ = some (.bool false) ∧ wr.cell? ⟨w.heap.size, 0 + 1, none⟩ = some (.string ⟨#[]⟩) ∧ wr.cell? ⟨w.heap.size, 0 + 2, none⟩ = some (.int .i64 0)) ∧ (wr.frozen? ⟨w.heap.size, 0, none⟩ = false ∧ wr.frozen? ⟨w.heap.size, 1, none⟩ = false ∧ wr.frozen? ⟨w.heap.size, 2, none⟩ = false) ∧ Below w.heap.size w wr := fun wr b => by
    have D := C.below b
    exact ⟨⟨D.c0, D.c1, D.c2⟩, ⟨(b.frozen (p := ⟨w.heap.size, 0, none⟩) lt0).trans (F0 0), (b.frozen (p := ⟨w.heap.size, 1, none⟩) lt0).trans (F0 1), (b.frozen (p := ⟨w.heap.size, 2, none⟩) lt0).trans (F0 2)⟩, below_trans K0 b⟩
  have FIN := hide fin
  clear fin F0 C K0
  rcases Int.lt_or_le s I with c | c
  rotate_left
  · obtain ⟨rfl, rfl, rfl, rfl⟩ := hP.1 c
    clear hP
    obtain ⟨⟨c0, c1, c2⟩, ⟨f0, f1, f2⟩, K2⟩ := FIN.out w1 b1
    go_wp2
    (try simp only [Exit.inBlock, Exit.then])
    refine bodyPost_ret (v := .tuple #[.agg #[.bool false, .string ⟨#[]⟩, .int .i64 0], .bool false]) (by rw [results_cell_tmp rfl]; go_simp) rfl ?_
    exact ⟨((K2.setCell (p := ⟨w.heap.size, 0, none⟩) (Nat.le_refl _) _).setCell (p := ⟨w.heap.size, 1, none⟩) (Nat.le_refl _) _).setCell (p := ⟨w.heap.size, 2, none⟩) (Nat.le_refl _) _, .inl ⟨c, rfl⟩⟩
  obtain ⟨rfl, rfl, hz, hpos⟩ := hP.2 c
  rcases Int.lt_or_eq_of_le s0 with sp | sp
  rotate_left
  · obtain ⟨rfl, rfl⟩ := hz sp.symm
    clear hP hz hpos
    obtain ⟨⟨c0, c1, c2⟩, ⟨f0, f1, f2⟩, K2⟩ := FIN.out w1 b1
    go_wp2
    (try simp only [Exit.inBlock, Exit.then])
    refine bodyPost_ret (v := .tuple #[.agg #[.bool a, .string ⟨#[]⟩, .int .i64 0], .bool true]) (by rw [results_cell_tmp rfl]; go_simp) rfl ?_
    refine ⟨((K2.setCell (p := ⟨w.heap.size, 0, none⟩) (Nat.le_refl _) _).setCell (p := ⟨w.heap.size, 1, none⟩) (Nat.le_refl _) _).setCell (p := ⟨w.heap.size, 2, none⟩) (Nat.le_refl _) _, .inr ⟨c, [], 0, rfl, ?_⟩⟩
    have k := exv_zero (F := F) (L := L) hF
    rw [← sp]
    exact ⟨k.1, k.2.2.2.2.1, k.2.2.2.2.2.1, k.2.2.2.2.2.2⟩
  obtain ⟨modd, kk, -, hmm, hEE⟩ := hpos sp
  have mp : 0 < m := by omega
  have HM := hide (And.intro hmm hEE)
  have mz : (m == 0) = false := by simp; omega
  clear hP hz hpos hmm hEE modd
  go_wp2
  clear mz
  go_loopg [7, 10] m.toNat (fun c mv lv wr => ∃ (u : Int) (l : List Int), c = u.toNat ∧ 0 ≤ u ∧ u ≤ m ∧ mv = .int .u64 u ∧ Reads .i64 wr lv l ∧ Dz l ∧ l.length ≤ 20 ∧ m = u * tn l.length + dz l ∧ Below w0.heap.size w0 wr)
  case atStart => exact ⟨m, [], rfl, m0, Int.le_refl _, rfl, ⟨none, 0, rfl, Nat.le_refl _, by unfold maxLen; omega, fun h => absurd h (by simp)⟩, (fun x hx => by cases hx), by simp, by simp [dz, tn_zero], b1⟩
  case round =>
    obtain ⟨u, l, hgu, u0, u1, rfl, hrd, hdz, hl20, heq, hbr⟩ := hrel
    have HZ := hide (And.intro hdz heq)
    clear hdz heq
    rcases Int.lt_or_eq_of_le u0 with up | up
    · have l20 : l.length < 20 := by
        rcases Nat.lt_or_ge l.length 20 with g | g
        · exact g
        · exfalso
          have t1 := tn_mono g
          have t2 : tn 20 = 100000000000000000000 := by decide
          have t3 : 1 * tn l.length ≤ u * tn l.length := Int.mul_le_mul_of_nonneg_right (by omega) (Int.le_of_lt (tn_pos _))
          have t4 := HZ.out.2
          have t5 := (dg_range HZ.out.1.dg).1
          rw [dz_dg] at t5
          omega
      have e1 : u.tmod 10 = u % 10 := Int.tmod_eq_emod_of_nonneg u0
      have e2 : u.tdiv 10 = u / 10 := Int.tdiv_eq_ediv_of_nonneg u0
      obtain ⟨d, hd⟩ : ∃ d, u % 10 = d := ⟨_, rfl⟩
      rw [hd] at e1
      have e3 : IntKind.i64.wrap d = d := by rw [IntKind.wrap_i64]; omega
      obtain ⟨ao, cap, rfl, z2, z3, z4⟩ := hrd
      clear z2 z3
      go_wp2_with (at_builtin; refine wpList_append_cells _ rfl _ _ 40 rfl wr.heap.size 3 .i64 8 Tryd.underlying40 Tryd.infoI _ 1 [d] rfl (own_one64 _ _) ao cap l rfl (z4.below (bel_new _ _)) (by unfold maxLen; omega) (by omega) (by simp) ?_)
      intro v' w5 hown' hgrow
      have hb5 : Below wr.heap.size wr w5 := own_below (bel_new wr _) (by simp) (own_one64 _ _) hgrow
      have hr5 : Reads .i64 w5 v' ([d] ++ l) := reads_of_owns hown'
      have Fin := hide (And.intro hr5 (below_trans hbr hb5))
      clear hown' hgrow hb5 hr5 z4 hbr
      go_wp2
      go_roundg (u / 10).toNat
      case measure => omega
      case rel =>
        obtain ⟨z1, z2⟩ := HZ.out
        refine ⟨u / 10, d :: l, rfl, by omega, by omega, rfl, Fin.out.1, z1.cons (by omega) (by omega), by simp; omega, ?_, Fin.out.2⟩
        rw [z2, List.length_cons, tn_succ, dz, ← Int.mul_assoc, show u / 10 * 10 = u - d by omega, Int.sub_mul]
        omega
    · subst up
      have hv : dz l = m := by have := HZ.out.2; omega
      have hD := HZ.out.1
      have l0 : 0 < l.length := by
        rcases Nat.eq_zero_or_pos l.length with g | g
        · rw [List.length_eq_zero_iff] at g; subst g; simp [dz] at hv; omega
        · exact g
      have HV := hide (And.intro hv (And.intro hD l0))
      have HR := hide hrd
      obtain ⟨ao, cap, rfl, z2, z3, z4⟩ := hrd
      clear hv hD HZ z2 z3 z4
      go_wp2
      have HB1 := hide hbr
      have HE := hide (show m * p2 E.toNat = m * p2 E.toNat from rfl)
      clear hbr
      go_loopg [8, 10, 11] E.toNat (fun c ev lv pv wr => ∃ (e : Int) (l : List Int), c = e.toNat ∧ (E ≤ 0 → e = E) ∧ (0 < E → 0 ≤ e ∧ e ≤ E) ∧ ev = .int .i64 e ∧ pv = .int .i64 (l.length : Int) ∧ Reads .i64 wr lv l ∧ Dz l ∧ 0 < l.length ∧ l.length ≤ 20 + (E.toNat - e.toNat) ∧ dz l * p2 e.toNat = m * p2 E.toNat ∧ Below w0.heap.size w0 wr)
      case atStart => exact ⟨E, l, rfl, fun _ => rfl, fun h => ⟨by omega, by omega⟩, rfl, rfl, HR.out, HV.out.2.1, HV.out.2.2, by omega, by rw [HV.out.1], HB1.out⟩
      case round =>
        clear HR HV HB1 HE l0 hl20
        obtain ⟨e, l, hge, he1, he2, rfl, rfl, hrd, hdz, l0, hll, heq, hbr⟩ := hrel
        have HZ := hide (And.intro hdz heq)
        clear hdz heq
        by_cases ep : 0 < e
        · have ln : l.length ≤ 3000 := by omega
          have HC := hide (twice7 (w := wr) hrd HZ.out.1 rfl l0 (by omega))
          go_wp2_with fail
          refine HC.out.mono ?_
          rintro z w5 ⟨v', zs, rfl, r5, d5, l5, q5, b5⟩
          have Fin := hide (And.intro r5 (And.intro d5 (And.intro l5 (And.intro q5 (below_trans hbr b5)))))
          clear r5 d5 q5 b5 HC hrd
          go_wp2
          go_roundg (e - 1).toNat
          case measure => omega
          case rel =>
            obtain ⟨r5, d5, l5, q5, b5⟩ := Fin.out
            have ee : e.toNat = (e - 1).toNat + 1 := by omega
            refine ⟨e - 1, zs, rfl, fun h => by omega, fun h => by omega, rfl, by rw [l5]; rfl, r5, d5, by omega, by omega, ?_, b5⟩
            have z2 := HZ.out.2
            rw [ee, p2] at z2
            rw [q5, ← z2]
            generalize p2 (e - 1).toNat = t
            rw [Int.mul_comm 2 (dz l), Int.mul_assoc]
        · have e9 : e.toNat = 0 := by omega
          have hv : dz l = m * p2 E.toNat := by have h := HZ.out.2; rw [e9, show p2 0 = 1 from rfl, Int.mul_one] at h; exact h
          have hE2 : e ≤ 0 ∧ (-e).toNat = (-E).toNat := by omega
          have HV := hide (And.intro hv (And.intro HZ.out.1 l0))
          have HR := hide hrd
          have HB1 := hide hbr
          obtain ⟨P, hP⟩ : ∃ P, l.length = P := ⟨_, rfl⟩
          rw [hP] at hll l0
          rw [hP]
          have lP : P ≤ 3000 := by omega
          have HPl := hide hP
          clear hP hll
          clear hv HZ hrd hbr he1 he2
          go_wp2
          go_loopg [8, 10] (-e).toNat (fun c ev lv wr => ∃ (k : Nat) (l : List Int), c = k ∧ k ≤ (-E).toNat ∧ ev = .int .i64 (-(k : Int)) ∧ Reads .i64 wr lv l ∧ Dz l ∧ P ≤ l.length ∧ l.length ≤ P + ((-E).toNat - k) ∧ dz l * p2 ((-E).toNat - k) = m * p2 E.toNat * tn (l.length - P) ∧ Below w0.heap.size w0 wr)
          case atStart => exact ⟨(-e).toNat, l, rfl, by omega, by congr 1; omega, HR.out, HV.out.2.1, by rw [HPl.out]; exact Nat.le_refl _, by rw [HPl.out]; omega, by rw [HV.out.1, HPl.out, Nat.sub_self, show (-E).toNat - (-e).toNat = 0 by omega, tn_zero]; rfl, HB1.out⟩
          case round =>
            clear HR HV HB1 HPl
            obtain ⟨k, l, hgk, hk, rfl, hrd, hdz, hlP, hll, heq, hbr⟩ := hrel
            have HZ := hide (And.intro hdz heq)
            clear hdz heq
            rcases Nat.eq_zero_or_pos k with kz | kp
            · subst kz
              obtain ⟨N, hN⟩ : ∃ N, l.length = N := ⟨_, rfl⟩
              obtain ⟨ao, cap, rfl, z2, z3, z4⟩ := hrd
              rw [hN] at hlP hll
              rw [hN]
              obtain ⟨b, off, rfl, hb, hcell⟩ := z4 (by omega)
              have HCl := hide hcell
              have HN := hide hN
              clear z2 z3 z4 hcell hN
              obtain ⟨wt, rfl⟩ : ∃ wt, wt = wr := ⟨_, rfl⟩
              go_wp2
              go_loopg [12, 13] N (fun c tv iv wq => ∃ i : Nat, i ≤ N ∧ c = N - i ∧ iv = .int .i64 i ∧ wq.ownsRow wt.heap.size 5 1 tv i (((l.take i).map (48 + ·)).map (Value.int .u8)) ∧ Below wt.heap.size wt wq)
              case atStart => exact ⟨0, by omega, rfl, rfl, ⟨rfl, .inl ⟨rfl, rfl⟩⟩, Below.refl _ _⟩
              case round =>
                obtain ⟨i, hi, hgi, rfl, hown, hbq⟩ := hrel
                have hbs := hbq.size
                by_cases hiN : i < N
                · have q4 : (i : Int) < (N : Int) := by omega
                  have hc := (hbq.cell (p := ⟨b, off + i, none⟩) (by simpa using hb)).trans (HCl.out i (by rw [HN.out]; omega))
                  have dr := HZ.out.1 _ (lb_mem (l := l) (i := i) (by rw [HN.out]; omega))
                  have tk := hide (show (l.take (i + 1)).map (48 + ·) = (l.take i).map (48 + ·) ++ [48 + Nt.lb l i] by
                    rw [List.take_succ_eq_append_getElem (by rw [HN.out]; omega), List.map_append]
                    simp [Nt.lb, HN.out, hiN])
                  obtain ⟨d, hdd⟩ : ∃ d, Nt.lb l i = d := ⟨_, rfl⟩
                  rw [hdd] at hc dr tk
                  obtain ⟨d0, d9⟩ := dr
                  clear hdd
                  have e4 : IntKind.u8.wrap (48 + d) = 48 + d := by rw [IntKind.wrap_u8]; omega
                  go_wp2_with (at_builtin; refine wpList_append_cells _ rfl _ _ 42 rfl wt.heap.size 5 .u8 1 Tryd.underlying42 Tryd.infoB8 _ i ((l.take i).map (48 + ·)) rfl (hown.alloc _) (some ⟨wr.heap.size, 0, none⟩) 1 [48 + d] rfl (one_cell _ _ _ _) (by unfold maxLen; simp; omega) (by simp; omega) (by simp; omega) ?_)
                  intro v' w5 hown' hgrow
                  have hb5 : Below wt.heap.size wt w5 := own_below (hbq.alloc hbs _) (by simp; omega) (hown.alloc _) hgrow
                  have HO := hide (And.intro hown' hb5)
                  clear hown' hgrow hown hb5 hc
                  go_wp2
                  go_roundg (N - (i + 1))
                  case measure => omega
                  case rel => exact ⟨i + 1, by omega, rfl, by simp, by rw [tk.out]; simpa using HO.out.1, HO.out.2⟩
                · have hiE : i = N := by omega
                  subst hiE
                  have hrd := reads_of_owns hown
                  rw [List.take_of_length_le (by rw [HN.out]; omega)] at hrd
                  have hcv := txt_conv hrd (by rw [List.length_map, HN.out]; omega)
                  have HPl := hide (show ∀ w : World, _ from fun w => plain7 (w := w) (N := i) (es := l.map (48 + ·)) HZ.out.1.dg.byt rfl (by rw [List.length_map, HN.out]) (by omega))
                  obtain ⟨⟨c0, c1, c2⟩, ⟨f0, f1, f2⟩, K2⟩ := FIN.out wr (below_trans hbr hbq)
                  clear hown hrd
                  go_wp2_with fail
                  refine (HPl.out _).mono ?_
                  rintro z w6 ⟨rfl, aa, bb, hB, rfl⟩
                  obtain ⟨hw, hbN, hab⟩ := exw_of hF sp hL HM.out.1 HM.out.2 mp HZ.out.1 (by rw [HN.out]; exact hlP) HZ.out.2 (by rw [HN.out]; exact hB)
                  rw [HN.out] at hbN
                  have HW := hide hw
                  generalize htx : strOfNums (((l.map (48 + ·)).take bb).drop aa) = tx at *
                  have Htx := hide htx
                  clear hw hB hcv HPl htx
                  go_wp2
                  (try simp only [Exit.inBlock, Exit.then])
                  refine bodyPost_ret (v := .tuple #[.agg #[.bool a, .string tx, .int .i64 ((P : Int) - aa)], .bool true]) (by rw [results_cell_tmp rfl]; go_simp) rfl ?_
                  exact ⟨((K2.setCell (p := ⟨w.heap.size, 0, none⟩) (Nat.le_refl _) _).setCell (p := ⟨w.heap.size, 1, none⟩) (Nat.le_refl _) _).setCell (p := ⟨w.heap.size, 2, none⟩) (Nat.le_refl _) _, .inr ⟨c, _, _, by rw [Htx.out], HW.out⟩⟩
            · have HC := hide (halved7 (w := wr) hrd HZ.out.1 rfl (by omega) (by omega))
              have kn : -(k : Int) < 0 := by omega
              go_wp2_with fail
              refine HC.out.mono ?_
              rintro z w5 ⟨v', zs, rfl, r5, d5, q5, b5⟩
              have Fin := hide (And.intro r5 (And.intro d5 (And.intro q5 (below_trans hbr b5))))
              clear r5 d5 q5 b5 HC hrd
              go_wp2
              go_roundg (k - 1)
              case measure => omega
              case rel =>
                obtain ⟨r5, d5, q5, b5⟩ := Fin.out
                refine ⟨k - 1, zs, rfl, by omega, by congr 1; omega, r5, d5, ?_, ?_, ?_, b5⟩
                · rcases q5 with ⟨q, -⟩ | ⟨q, -⟩ <;> omega
                · rcases q5 with ⟨q, -⟩ | ⟨q, -⟩ <;> omega
                · have z2 := HZ.out.2
                  rw [show (-E).toNat - (k - 1) = (-E).toNat - k + 1 by omega, p2]
                  generalize p2 ((-E).toNat - k) = t at *
                  rcases q5 with ⟨q, q2⟩ | ⟨q, q2⟩
                  · rw [q, ← z2, ← q2]; ac_rfl
                  · rw [q, show l.length + 1 - P = l.length - P + 1 by omega, tn_succ, show m * p2 E.toNat * (10 * tn (l.length - P)) = 10 * (m * p2 E.toNat * tn (l.length - P)) by ac_rfl, ← z2, show 10 * (dz l * t) = 10 * dz l * t by ac_rfl, ← q2]; ac_rfl

end Go.Proofs.YtigehipclkoecaaDoor
