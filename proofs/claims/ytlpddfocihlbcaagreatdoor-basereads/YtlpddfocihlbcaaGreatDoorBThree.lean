/- base.threeOf -/
import Derived.Test.YtlpddfocihlbcaaGreatDoorBFour
namespace Go.Proofs.YtlpddfocihlbcaaGreatDoor
open Go.RowKit
set_option linter.unusedVariables false

/-- what threeOf answers of a group of letters -/
def BThree (gs : List Int) (w w' : World) (e : Ending) : Prop :=
  ((∃ a b c, (0 ≤ a ∧ a < 256) ∧ (0 ≤ b ∧ b < 256) ∧ (0 ≤ c ∧ c < 256) ∧ SixOf gs ([a, b, c].take (gs.length - 1)) ∧ e = .returned (.tuple #[.agg #[.int .u8 a, .int .u8 b, .int .u8 c], .bool true]))
    ∨ ((∀ xs, ¬ SixOf gs xs) ∧ e = .returned (.tuple #[.agg #[.int .u8 0, .int .u8 0, .int .u8 0], .bool false]))) ∧ Below w.heap.size w w'
def bP : Nat → Int
  | 0 => 262144
  | 1 => 4096
  | 2 => 64
  | _ => 1
def bAcc (gs : List Int) : Nat → Int
  | 0 => 0
  | k + 1 => bAcc gs k + bNo bLets (Nt.lb gs k) * bP k
theorem bLet_bNo {c : Int} (h : c ∈ bLets) : bLet (bNo bLets c) = c := (bNo_in h).2.2
theorem six2 {p q : Int} (p0 : 0 ≤ p) (p1 : p < 64) (q0 : 0 ≤ q) (q1 : q < 64) (h : q % 16 = 0) : SixOf [bLet p, bLet q] [p * 4 + q / 16] :=
  ⟨fun x hx => by rw [List.mem_singleton.1 hx]; omega, by simp only [b64]; rw [show (p * 4 + q / 16) / 4 = p by omega, show (p * 4 + q / 16) % 4 * 16 = q by omega]⟩
theorem six2n {p q : Int} (p0 : 0 ≤ p) (p1 : p < 64) (q0 : 0 ≤ q) (q1 : q < 64) (h : q % 16 ≠ 0) (xs : List Int) : ¬ SixOf [bLet p, bLet q] xs := by
  rintro ⟨h1, h2⟩
  have hl := b64_len xs
  rw [h2] at hl
  simp only [List.length_cons, List.length_nil] at hl
  match xs, (show xs.length = 1 by omega) with
  | [a], _ =>
    simp only [b64, List.cons.injEq] at h2
    have ha := h1.of_cons.1
    have := bLet_inj (by omega) (by omega) q0 q1 h2.2.1
    omega
theorem six3 {p q r : Int} (p0 : 0 ≤ p) (p1 : p < 64) (q0 : 0 ≤ q) (q1 : q < 64) (r0 : 0 ≤ r) (r1 : r < 64) (h : r % 4 = 0) : SixOf [bLet p, bLet q, bLet r] [p * 4 + q / 16, q % 16 * 16 + r / 4] :=
  ⟨fun x hx => by simp only [List.mem_cons, List.not_mem_nil, or_false] at hx; rcases hx with rfl | rfl <;> omega, by
    simp only [b64]
    rw [show (p * 4 + q / 16) / 4 = p by omega, show (p * 4 + q / 16) % 4 * 16 + (q % 16 * 16 + r / 4) / 16 = q by omega, show (q % 16 * 16 + r / 4) % 16 * 4 = r by omega]⟩
theorem six3n {p q r : Int} (p0 : 0 ≤ p) (p1 : p < 64) (q0 : 0 ≤ q) (q1 : q < 64) (r0 : 0 ≤ r) (r1 : r < 64) (h : r % 4 ≠ 0) (xs : List Int) : ¬ SixOf [bLet p, bLet q, bLet r] xs := by
  rintro ⟨h1, h2⟩
  have hl := b64_len xs
  rw [h2] at hl
  simp only [List.length_cons, List.length_nil] at hl
  match xs, (show xs.length = 2 by omega) with
  | [a, b], _ =>
    simp only [b64, List.cons.injEq] at h2
    have ha := h1.of_cons.2.of_cons.1
    have := bLet_inj (by omega) (by omega) r0 r1 h2.2.2.1
    omega
theorem six4 {p q r s : Int} (p0 : 0 ≤ p) (p1 : p < 64) (q0 : 0 ≤ q) (q1 : q < 64) (r0 : 0 ≤ r) (r1 : r < 64) (s0 : 0 ≤ s) (s1 : s < 64) : SixOf [bLet p, bLet q, bLet r, bLet s] [p * 4 + q / 16, q % 16 * 16 + r / 4, r % 4 * 64 + s] :=
  ⟨fun x hx => by simp only [List.mem_cons, List.not_mem_nil, or_false] at hx; rcases hx with rfl | rfl | rfl <;> omega, by
    simp only [b64]
    rw [show (p * 4 + q / 16) / 4 = p by omega, show (p * 4 + q / 16) % 4 * 16 + (q % 16 * 16 + r / 4) / 16 = q by omega, show (q % 16 * 16 + r / 4) % 16 * 4 + (r % 4 * 64 + s) / 64 = r by omega, show (r % 4 * 64 + s) % 64 = s by omega]⟩
theorem bNo_rng (c : Int) : 0 ≤ bNo bLets c ∧ bNo bLets c < 64 := by
  unfold bNo
  split
  · rename_i h
    have h2 := List.idxOf_lt_length_iff.2 h
    have h3 : bLets.idxOf c < 64 := h2
    omega
  · omega

set_option maxRecDepth 100000 in
set_option maxHeartbeats 4000000 in
theorem three_one {w : World} {g cap : Nat} {x0 : Int} :
    Calls Tryz.prog 17 #[.slice (some ⟨g, 0, none⟩) 1 cap] w fun e w' => BThree [x0] w w' e := by
  go_enter Tryz.func17, Tryz.ntmps17
  go_wp2
  refine bodyPost_ret (v := .tuple #[.agg #[.int .u8 0, .int .u8 0, .int .u8 0], .bool false]) (by simp [results, Tryz.results17, go_sem]) rfl ?_
  exact ⟨.inr ⟨fun xs => six_lone rfl, rfl⟩, al_b _ _⟩

theorem list2 {l : List Int} (h : l.length = 2) : ∃ a b, l = [a, b] := by
  match l, h with | [a, b], _ => exact ⟨a, b, rfl⟩
theorem list3 {l : List Int} (h : l.length = 3) : ∃ a b c, l = [a, b, c] := by
  match l, h with | [a, b, c], _ => exact ⟨a, b, c, rfl⟩
theorem list4 {l : List Int} (h : l.length = 4) : ∃ a b c d, l = [a, b, c, d] := by
  match l, h with | [a, b, c, d], _ => exact ⟨a, b, c, d, rfl⟩

def b3K (gs : List Int) (w wr : World) : Prop := Row .u8 53 wr w.heap.size [0, 0, 0] ∧ Below w.heap.size w wr ∧ w.heap.size < wr.heap.size
theorem b3K.on {gs : List Int} {w wr wz : World} (h : b3K gs w wr) (hb : Below wr.heap.size wr wz) : b3K gs w wz := ⟨h.1.keeps hb, h.2.1.trans (hb.mono h.2.1.size), Nat.lt_of_lt_of_le h.2.2 hb.size⟩

set_option maxRecDepth 100000 in
theorem b3_load {W : World} {g : Nat} {a b c : Int} (hR : Row .u8 53 W g [a, b, c]) : (loadVar 53 ⟨g, 0, none⟩).run Tryz.prog W = .ok (.agg #[.int .u8 a, .int .u8 b, .int .u8 c]) W := by
  have c0 : W.cell? ⟨g, 0, none⟩ = some (.int .u8 a) := hR.cell (i := 0) (by simp)
  have c1 : W.cell? ⟨g, 1, none⟩ = some (.int .u8 b) := hR.cell (i := 1) (by simp)
  have c2 : W.cell? ⟨g, 2, none⟩ = some (.int .u8 c) := hR.cell (i := 2) (by simp)
  go_simp
set_option maxRecDepth 100000 in
theorem b3_post {w W : World} {act : Act} {a b c : Int} {ok : Bool} {R : Ending → World → Prop} (hR : Row .u8 53 W w.heap.size [a, b, c]) (hd : act.defers = [])
    (h2 : act.tmps.getD 2 undef = .pointer (some ⟨w.heap.size, 0, none⟩)) (h3 : act.tmps.getD 3 undef = .bool ok) (h : R (.returned (.tuple #[.agg #[.int .u8 a, .int .u8 b, .int .u8 c], .bool ok])) W) : bodyPost Tryz.prog Tryz.f17 R .ret act W := by
  refine bodyPost_ret ?_ hd h
  rw [results_cell_tmp rfl, h2, h3]
  show Result.andThen ((loadVar 53 ⟨w.heap.size, 0, none⟩).run Tryz.prog W) _ = _
  rw [b3_load hR]
  rfl
theorem b3_set {W : World} {g : Nat} {x y z a b c : Int} (hR : Row .u8 53 W g [x, y, z]) : Row .u8 53 (((W.setCell ⟨g, 0, none⟩ (.int .u8 a)).setCell ⟨g, 1, none⟩ (.int .u8 b)).setCell ⟨g, 2, none⟩ (.int .u8 c)) g [a, b, c] := ((hR.set 0 a).set 1 b).set 2 c
theorem b3_bel {w W : World} {a b c : Int} (h : Below w.heap.size w W) : Below w.heap.size w (((W.setCell ⟨w.heap.size, 0, none⟩ (.int .u8 a)).setCell ⟨w.heap.size, 1, none⟩ (.int .u8 b)).setCell ⟨w.heap.size, 2, none⟩ (.int .u8 c)) :=
  ((h.setCell (p := ⟨w.heap.size, 0, none⟩) (Nat.le_refl _) _).setCell (p := ⟨w.heap.size, 1, none⟩) (Nat.le_refl _) _).setCell (p := ⟨w.heap.size, 2, none⟩) (Nat.le_refl _) _

set_option maxRecDepth 100000 in
set_option maxHeartbeats 8000000 in
theorem three_more {w : World} {g cap : Nat} {gs : List Int} (hc : Cells .u8 w (some ⟨g, 0, none⟩) gs) (hb : uByt gs) (h2 : 2 ≤ gs.length) (h4 : gs.length ≤ 4) (hcap : gs.length ≤ cap) (hcm : cap ≤ 4) :
    Calls Tryz.prog 17 #[.slice (some ⟨g, 0, none⟩) gs.length cap] w fun e w' => BThree gs w w' e := by
  have HC := hide hc
  have HB := hide hb
  clear hc hb
  have q1 : ¬ (gs.length : Int) < 2 := by omega
  go_enter Tryz.func17, Tryz.ntmps17
  go_wp2
  go_loopw [4, 17] (fun s4 si wr => ∃ (k : Nat) (B : Int), s4 = .int .u32 B ∧ si = .int .i64 k ∧ k ≤ gs.length ∧ (0 ≤ B ∧ B < 16777216) ∧ (k = 0 → B % 16777216 = 0) ∧ (k = 1 → B % 262144 = 0) ∧ (k = 2 → B % 4096 = 0) ∧ (k = 3 → B % 64 = 0) ∧ Hid (B = bAcc gs k ∧ ∀ j, j < k → Nt.lb gs j ∈ bLets) ∧ Hid (b3K gs w wr)) (fun _ si _ => gs.length - (intOf si).toNat)
  case atStart => exact ⟨0, 0, rfl, rfl, by omega, by omega, by omega, by omega, by omega, by omega, hide ⟨rfl, fun j hj => by omega⟩, hide ⟨heap_alloc_new w _, al_b _ _, by simp⟩⟩
  case round =>
    obtain ⟨k, B, rfl, rfl, hk, hB, hk0, hk1, hk2, hk3, HT, HK⟩ := hrel
    by_cases hlt : k < gs.length
    · obtain ⟨b, off, he, hbb, hcell⟩ := (HC.out.below HK.out.2.1) (by omega)
      cases he
      have hcl := hcell k hlt
      rw [Nat.zero_add] at hcl
      have hx := lb_byt HB.out hlt
      have n1 := hide (fun W => numberIn_any (w := W) bLets_s bLets_lt (by decide) hx.1 hx.2)
      have HM := hide (lb_mem hlt)
      have hr := bNo_rng (Nt.lb gs k)
      by_cases m : Nt.lb gs k ∈ bLets
      · rw [decide_eq_true m] at n1
        have HS := hide (show B + bNo bLets (Nt.lb gs k) * bP k = bAcc gs (k + 1) ∧ ∀ j, j < k + 1 → Nt.lb gs j ∈ bLets from ⟨by rw [HT.out.1]; rfl, fun j hj => by
          by_cases e : j = k
          · subst e; exact m
          · exact HT.out.2 j (by omega)⟩)
        obtain ⟨y, hy⟩ : ∃ y, bNo bLets (Nt.lb gs k) = y := ⟨_, rfl⟩
        rw [hy] at n1 hr HS
        clear hcell m hy HM HT
        obtain ⟨x, hxx⟩ : ∃ x, Nt.lb gs k = x := ⟨_, rfl⟩
        rw [hxx] at n1 hcl hx
        clear hxx
        have hlt1 : (k : Int) < (gs.length : Int) := by omega
        rcases (show k = 0 ∨ k = 1 ∨ k = 2 ∨ k = 3 by omega) with rfl | rfl | rfl | rfl
        · have o1 := or32 24 (a := B) (b := y * 262144) (P := 16777216) rfl (by omega) (by omega) (by omega) (by omega) (by omega) (by omega)
          have HZ := hide (show (0 ≤ B + y * 262144 ∧ B + y * 262144 < 16777216) ∧ (B + y * 262144) % 262144 = 0 by omega)
          go_wp2_with fail
          refine (n1.out _).mono ?_
          rintro e w2 ⟨rfl, k2⟩
          have HK2 := hide (HK.out.on k2)
          clear k2
          go_wp2
          go_roundw
          case rel => exact ⟨1, B + y * 262144, rfl, by go_num, by omega, HZ.out.1, by omega, fun _ => HZ.out.2, by omega, by omega, HS, HK2⟩
          case measure => simp [intOf]; omega
        · have o1 := or32 18 (a := B) (b := y * 4096) (P := 262144) rfl (by omega) (by omega) (by omega) (by omega) (by omega) (by omega)
          have HZ := hide (show (0 ≤ B + y * 4096 ∧ B + y * 4096 < 16777216) ∧ (B + y * 4096) % 4096 = 0 by omega)
          go_wp2_with fail
          refine (n1.out _).mono ?_
          rintro e w2 ⟨rfl, k2⟩
          have HK2 := hide (HK.out.on k2)
          clear k2
          go_wp2
          go_roundw
          case rel => exact ⟨2, B + y * 4096, rfl, by go_num, by omega, HZ.out.1, by omega, by omega, fun _ => HZ.out.2, by omega, HS, HK2⟩
          case measure => simp [intOf]; omega
        · have o1 := or32 12 (a := B) (b := y * 64) (P := 4096) rfl (by omega) (by omega) (by omega) (by omega) (by omega) (by omega)
          have HZ := hide (show (0 ≤ B + y * 64 ∧ B + y * 64 < 16777216) ∧ (B + y * 64) % 64 = 0 by omega)
          go_wp2_with fail
          refine (n1.out _).mono ?_
          rintro e w2 ⟨rfl, k2⟩
          have HK2 := hide (HK.out.on k2)
          clear k2
          go_wp2
          go_roundw
          case rel => exact ⟨3, B + y * 64, rfl, by go_num, by omega, HZ.out.1, by omega, by omega, by omega, fun _ => HZ.out.2, HS, HK2⟩
          case measure => simp [intOf]; omega
        · have o1 := or32 6 (a := B) (b := y) (P := 64) rfl (by omega) (by omega) (by omega) (by omega) (by omega) (by omega)
          have HZ := hide (show (0 ≤ B + y ∧ B + y < 16777216) ∧ (B + y) % 1 = 0 by omega)
          go_wp2_with fail
          refine (n1.out _).mono ?_
          rintro e w2 ⟨rfl, k2⟩
          have HK2 := hide (HK.out.on k2)
          clear k2
          go_wp2
          go_roundw
          case rel => exact ⟨4, B + y, rfl, by go_num, by omega, HZ.out.1, by omega, by omega, by omega, by omega, hide ⟨by rw [← HS.out.1, show bP 3 = 1 from rfl, Int.mul_one], HS.out.2⟩, HK2⟩
          case measure => simp [intOf]; omega
      · rw [decide_eq_false m] at n1
        have HN := hide (fun xs => six_bad (es := xs) HM.out m)
        clear m HM hcell
        have hlt1 : (k : Int) < (gs.length : Int) := by omega
        go_wp2_with fail
        refine (n1.out _).mono ?_
        rintro e w2 ⟨rfl, k2⟩
        have HK2 := hide (HK.out.on k2)
        have c0 := HK2.out.1.cell (i := 0) (by simp)
        have c1 := HK2.out.1.cell (i := 1) (by simp)
        have c2 := HK2.out.1.cell (i := 2) (by simp)
        have f0 := HK2.out.1.frozen 0
        have f1 := HK2.out.1.frozen 1
        have f2 := HK2.out.1.frozen 2
        clear k2
        go_wp2
        exact b3_post (b3_set HK2.out.1) rfl rfl rfl ⟨.inr ⟨HN.out, rfl⟩, b3_bel HK2.out.2.1⟩
    · have hke : k = gs.length := by omega
      have hlt1 : ¬ (k : Int) < (gs.length : Int) := by omega
      have c0 := HK.out.1.cell (i := 0) (by simp)
      have c1 := HK.out.1.cell (i := 1) (by simp)
      have c2 := HK.out.1.cell (i := 2) (by simp)
      have f0 := HK.out.1.frozen 0
      have f1 := HK.out.1.frozen 1
      have f2 := HK.out.1.frozen 2
      clear hk0 hk1 hk2 hk3
      subst hke
      obtain ⟨hB1, hMm⟩ := HT.out
      rcases (show gs.length = 2 ∨ gs.length = 3 ∨ gs.length = 4 by omega) with hl | hl | hl
      · obtain ⟨x0, x1, rfl⟩ := list2 hl
        have m0 := hMm 0 (by simp)
        have m1 := hMm 1 (by simp)
        have e0 := bLet_bNo m0
        have r0 := bNo_rng x0
        have e1 := bLet_bNo m1
        have r1 := bNo_rng x1
        have hB2 : B = bNo bLets x0 * 262144 + bNo bLets x1 * 4096 := by rw [hB1]; simp [bAcc, bP, Nt.lb]
        simp only [Nt.lb, List.getD_cons_zero, List.getD_cons_succ] at e0 e1
        obtain ⟨p, hp⟩ : ∃ p, bNo bLets x0 = p := ⟨_, rfl⟩
        rw [hp] at e0 r0 hB2
        obtain ⟨q, hq⟩ : ∃ p, bNo bLets x1 = p := ⟨_, rfl⟩
        rw [hq] at e1 r1 hB2
        subst e0 e1
        have v0 : B / 65536 = p * 4 + q / 16 := by omega
        have v1 : B / 256 % 256 = q % 16 * 16 := by omega
        have v2 : B % 256 = 0 := by omega
        clear hp hq hB1 hB2 hMm m0 m1 hB HT HC HB
        by_cases hz : q % 16 = 0
        · have HS := hide (six2 r0.1 r0.2 r1.1 r1.2 hz)
          have v3 : q % 16 * 16 = 0 := by omega
          rw [v3] at v1
          have HW := hide (show (0 ≤ p * 4 + q / 16 ∧ p * 4 + q / 16 < 256) ∧ ((0 : Int) ≤ 0 ∧ (0 : Int) < 256) ∧ ((0 : Int) ≤ 0 ∧ (0 : Int) < 256) by omega)
          go_wp2
          refine wp_loop_rounds 3 ?_
          rw [rounds_succ]
          go_wp2
          rw [rounds_succ]
          go_wp2
          rw [rounds_succ]
          go_wp2
          exact b3_post (b3_set (b3_set HK.out.1)) rfl rfl rfl ⟨.inl ⟨p * 4 + q / 16, 0, 0, HW.out.1, HW.out.2.1, HW.out.2.2, HS.out, rfl⟩, b3_bel (b3_bel HK.out.2.1)⟩
        · have HS := hide (six2n r0.1 r0.2 r1.1 r1.2 hz)
          have v3 : (q % 16 * 16 != 0) = true := by simp; omega
          go_wp2
          refine wp_loop_rounds 3 ?_
          rw [rounds_succ]
          go_wp2
          exact b3_post (b3_set (b3_set HK.out.1)) rfl rfl rfl ⟨.inr ⟨HS.out, rfl⟩, b3_bel (b3_bel HK.out.2.1)⟩
      · obtain ⟨x0, x1, x2, rfl⟩ := list3 hl
        have m0 := hMm 0 (by simp)
        have m1 := hMm 1 (by simp)
        have m2 := hMm 2 (by simp)
        have e0 := bLet_bNo m0
        have r0 := bNo_rng x0
        have e1 := bLet_bNo m1
        have r1 := bNo_rng x1
        have e2 := bLet_bNo m2
        have r2 := bNo_rng x2
        have hB2 : B = bNo bLets x0 * 262144 + bNo bLets x1 * 4096 + bNo bLets x2 * 64 := by rw [hB1]; simp [bAcc, bP, Nt.lb]
        simp only [Nt.lb, List.getD_cons_zero, List.getD_cons_succ] at e0 e1 e2
        obtain ⟨p, hp⟩ : ∃ p, bNo bLets x0 = p := ⟨_, rfl⟩
        rw [hp] at e0 r0 hB2
        obtain ⟨q, hq⟩ : ∃ p, bNo bLets x1 = p := ⟨_, rfl⟩
        rw [hq] at e1 r1 hB2
        obtain ⟨r, hr⟩ : ∃ p, bNo bLets x2 = p := ⟨_, rfl⟩
        rw [hr] at e2 r2 hB2
        subst e0 e1 e2
        have v0 : B / 65536 = p * 4 + q / 16 := by omega
        have v1 : B / 256 % 256 = q % 16 * 16 + r / 4 := by omega
        have v2 : B % 256 = r % 4 * 64 := by omega
        clear hp hq hr hB1 hB2 hMm m0 m1 m2 hB HT HC HB
        by_cases hz : r % 4 = 0
        · have HS := hide (six3 r0.1 r0.2 r1.1 r1.2 r2.1 r2.2 hz)
          have v3 : r % 4 * 64 = 0 := by omega
          rw [v3] at v2
          have HW := hide (show (0 ≤ p * 4 + q / 16 ∧ p * 4 + q / 16 < 256) ∧ (0 ≤ q % 16 * 16 + r / 4 ∧ q % 16 * 16 + r / 4 < 256) ∧ ((0 : Int) ≤ 0 ∧ (0 : Int) < 256) by omega)
          go_wp2
          refine wp_loop_rounds 2 ?_
          rw [rounds_succ]
          go_wp2
          rw [rounds_succ]
          go_wp2
          exact b3_post (b3_set (b3_set HK.out.1)) rfl rfl rfl ⟨.inl ⟨p * 4 + q / 16, q % 16 * 16 + r / 4, 0, HW.out.1, HW.out.2.1, HW.out.2.2, HS.out, rfl⟩, b3_bel (b3_bel HK.out.2.1)⟩
        · have HS := hide (six3n r0.1 r0.2 r1.1 r1.2 r2.1 r2.2 hz)
          have v3 : (r % 4 * 64 != 0) = true := by simp; omega
          go_wp2
          refine wp_loop_rounds 2 ?_
          rw [rounds_succ]
          go_wp2
          exact b3_post (b3_set (b3_set HK.out.1)) rfl rfl rfl ⟨.inr ⟨HS.out, rfl⟩, b3_bel (b3_bel HK.out.2.1)⟩
      · obtain ⟨x0, x1, x2, x3, rfl⟩ := list4 hl
        have m0 := hMm 0 (by simp)
        have m1 := hMm 1 (by simp)
        have m2 := hMm 2 (by simp)
        have m3 := hMm 3 (by simp)
        have e0 := bLet_bNo m0
        have r0 := bNo_rng x0
        have e1 := bLet_bNo m1
        have r1 := bNo_rng x1
        have e2 := bLet_bNo m2
        have r2 := bNo_rng x2
        have e3 := bLet_bNo m3
        have r3 := bNo_rng x3
        have hB2 : B = bNo bLets x0 * 262144 + bNo bLets x1 * 4096 + bNo bLets x2 * 64 + bNo bLets x3 := by rw [hB1]; simp [bAcc, bP, Nt.lb]
        simp only [Nt.lb, List.getD_cons_zero, List.getD_cons_succ] at e0 e1 e2 e3
        obtain ⟨p, hp⟩ : ∃ p, bNo bLets x0 = p := ⟨_, rfl⟩
        rw [hp] at e0 r0 hB2
        obtain ⟨q, hq⟩ : ∃ p, bNo bLets x1 = p := ⟨_, rfl⟩
        rw [hq] at e1 r1 hB2
        obtain ⟨r, hr⟩ : ∃ p, bNo bLets x2 = p := ⟨_, rfl⟩
        rw [hr] at e2 r2 hB2
        obtain ⟨s, hs⟩ : ∃ p, bNo bLets x3 = p := ⟨_, rfl⟩
        rw [hs] at e3 r3 hB2
        subst e0 e1 e2 e3
        have v0 : B / 65536 = p * 4 + q / 16 := by omega
        have v1 : B / 256 % 256 = q % 16 * 16 + r / 4 := by omega
        have v2 : B % 256 = r % 4 * 64 + s := by omega
        clear hp hq hr hs hB1 hB2 hMm m0 m1 m2 m3 hB HT HC HB
        have HS := hide (six4 r0.1 r0.2 r1.1 r1.2 r2.1 r2.2 r3.1 r3.2)
        have HW := hide (show (0 ≤ p * 4 + q / 16 ∧ p * 4 + q / 16 < 256) ∧ (0 ≤ q % 16 * 16 + r / 4 ∧ q % 16 * 16 + r / 4 < 256) ∧ (0 ≤ r % 4 * 64 + s ∧ r % 4 * 64 + s < 256) by omega)
        go_wp2
        refine wp_loop_rounds 1 ?_
        rw [rounds_succ]
        go_wp2
        exact b3_post (b3_set (b3_set HK.out.1)) rfl rfl rfl ⟨.inl ⟨p * 4 + q / 16, q % 16 * 16 + r / 4, r % 4 * 64 + s, HW.out.1, HW.out.2.1, HW.out.2.2, HS.out, rfl⟩, b3_bel (b3_bel HK.out.2.1)⟩

end Go.Proofs.YtlpddfocihlbcaaGreatDoor
