/- ELp -/
import Derived.Test.YtinfkoiifemjmaaGreatDoorS21
import Derived.Test.YtinfkoiifemjmaaGreatDoorS10
namespace Go.Proofs.YtinfkoiifemjmaaGreatDoor
open Go.RowKit
set_option linter.unusedVariables false

set_option maxHeartbeats 4000000 in
set_option maxRecDepth 100000 in
theorem size_5 {w : World} {B b : Nat} {n : Int} {es fs ps : List Int} {s : ByteArray} (hp : PowOk n ps) (hb : Byt es) (h : Bd B b fs w) (hBw : B ≤ w.heap.size) (hs : s = strOfNums es) (hL : es.length = 1) (hn : n ≤ -6 ∨ 21 < n) (hf : fs.length ≤ 100) :
    Calls Tryz.prog 17 #[.pointer (some ⟨b, 0, none⟩), .string s, .int .i64 n] w fun e w' => e = .returned (.tuple #[]) ∧ Bd B b (fs ++ [Nt.lb es 0] ++ ps) w' ∧ Below B w w' := by
  have hsz : s.size = 1 := by rw [hs, strOfNums_size, hL]
  have hps0 : 0 < s.size := by omega
  have i0 : (((s[0]'hps0).toNat : Nat) : Int) = Nt.lb es 0 := by subst hs; exact txt_at hps0 hb
  have c01 := hb _ (lb_in (es := es) (p := 0) (by omega))
  obtain ⟨c, hc⟩ : ∃ c, Nt.lb es 0 = c := ⟨_, rfl⟩
  rw [hc] at i0 c01 ⊢
  obtain ⟨c0, c1⟩ := c01
  have HP := hide hp
  rcases hn with hn | hn
  · have f1 : n < 1 := by omega
    have f1' : ¬ (1 : Int) ≤ n := by omega
    have f2 : ¬ 0 < n := by omega
    have f3 : ¬ -6 < n := by omega
    clear hs hL hc hp hn
    go_enter Tryz.func17, Tryz.ntmps17
    go_wp2_with fail
    refine (h.byte c0 c1 (by omega) hBw).mono ?_
    rintro e w1 ⟨rfl, g1, b1⟩
    have s1 := b1.size
    go_wp2_with fail
    refine (HP.out B b _ _ g1 (by omega) (by simp; omega)).mono ?_
    rintro e w4 ⟨rfl, g4, b4⟩
    have K := b1.trans b4
    have G := hide g4
    clear b1 b4 s1 g1 g4 h
    go_wp2
    go_end0
    exact ⟨rfl, G.out, K⟩
  · have f1 : ¬ n < 1 := by omega
    have f2 : ¬ n ≤ 21 := by omega
    have f3 : 0 < n := by omega
    have f4 : -6 < n := by omega
    have f5 : ¬ n ≤ 0 := by omega
    clear hs hL hc hp
    go_enter Tryz.func17, Tryz.ntmps17
    go_wp2_with fail
    refine (h.byte c0 c1 (by omega) hBw).mono ?_
    rintro e w1 ⟨rfl, g1, b1⟩
    have s1 := b1.size
    go_wp2_with fail
    refine (HP.out B b _ _ g1 (by omega) (by simp; omega)).mono ?_
    rintro e w4 ⟨rfl, g4, b4⟩
    have K := b1.trans b4
    have G := hide g4
    clear b1 b4 s1 g1 g4 h
    go_wp2
    go_end0
    exact ⟨rfl, G.out, K⟩

/-- the digits laid out, without a sign; ps: what writePower writes -/
def layT (es : List Int) (n : Int) (ps : List Int) : List Int :=
  if (es.length : Int) ≤ n ∧ n ≤ 21 then es ++ List.replicate (n - es.length).toNat 48
  else if 0 < n ∧ n ≤ 21 then es.take n.toNat ++ [46] ++ es.drop n.toNat
  else if -6 < n ∧ n ≤ 0 then [48, 46] ++ List.replicate (-n).toNat 48 ++ es
  else if es.length = 1 then [Nt.lb es 0] ++ ps
  else [Nt.lb es 0] ++ [46] ++ es.drop 1 ++ ps
theorem size_any {w : World} {B b : Nat} {n : Int} {es fs ps : List Int} {s : ByteArray} (hp : PowOk n ps) (hb : Byt es) (h : Bd B b fs w) (hBw : B ≤ w.heap.size) (hs : s = strOfNums es) (h1 : 0 < es.length) (hl : es.length ≤ 70368744177664) (hf : fs.length ≤ 100) :
    Calls Tryz.prog 17 #[.pointer (some ⟨b, 0, none⟩), .string s, .int .i64 n] w fun e w' => e = .returned (.tuple #[]) ∧ Bd B b (fs ++ layT es n ps) w' ∧ Below B w w' := by
  unfold layT
  by_cases a1 : (es.length : Int) ≤ n ∧ n ≤ 21
  · rw [if_pos a1, ← List.append_assoc]
    exact size_1 h hBw hs rfl a1.1 a1.2 hf
  rw [if_neg a1]
  by_cases a2 : 0 < n ∧ n ≤ 21
  · rw [if_pos a2]
    obtain ⟨m, rfl⟩ : ∃ m : Nat, n = (m : Int) := ⟨n.toNat, by omega⟩
    rw [show ((m : Nat) : Int).toNat = m by simp, ← List.append_assoc, ← List.append_assoc]
    exact size_2 h hBw hs rfl hl (by omega) (by omega) (by omega) hf
  rw [if_neg a2]
  by_cases a3 : -6 < n ∧ n ≤ 0
  · rw [if_pos a3]
    rw [← List.append_assoc, ← List.append_assoc]
    exact size_3 h hBw hs rfl hl h1 (m := (-n).toNat) (by omega) (by omega) hf
  rw [if_neg a3]
  by_cases a4 : es.length = 1
  · rw [if_pos a4, ← List.append_assoc]
    exact size_5 hp hb h hBw hs a4 (by omega) hf
  · rw [if_neg a4, ← List.append_assoc, ← List.append_assoc, ← List.append_assoc]
    exact size_4 hp hb h hBw hs rfl hl (by omega) (by omega) hf

set_option maxHeartbeats 4000000 in
set_option maxRecDepth 100000 in
theorem layout_no {w : World} {ng : Bool} {s : ByteArray} {es : List Int} {n : Int} (hb : Byt es) (hs : s = strOfNums es) (hl : es.length ≤ 9223372036854775807) (hbare : bareB es = false) :
    Calls Tryz.prog 7 #[.agg #[.bool ng, .string s, .int .i64 n]] w fun e w' => e = .returned (.tuple #[.string ⟨#[]⟩, .bool false]) ∧ Below w.heap.size w w' := by
  have K0 : Below w.heap.size w (w.alloc (.cells #[.bool ng, .string s, .int .i64 n] 23)) := (Below.refl _ _).alloc (Nat.le_refl _) _
  have C := cell3_new w (.bool ng) (.string s) (.int .i64 n) 23
  have HB := hide (fun W : World => isBare_any (w := W) hb hs hl)
  rw [hbare] at HB
  have c0 := C.c0; have c1 := C.c1; have c2 := C.c2
  clear C hb hs
  go_enter Tryz.func7, Tryz.ntmps7
  go_wp2_with fail
  refine (HB.out _).mono ?_
  rintro e w1 ⟨rfl, rfl⟩
  go_wp2
  go_ret2
  exact ⟨rfl, K0⟩

set_option maxHeartbeats 4000000 in
set_option maxRecDepth 100000 in
theorem layout_pos {w : World} {s : ByteArray} {es ps : List Int} {n : Int} (hp : PowOk n ps) (hb : Byt es) (hs : s = strOfNums es) (hl : es.length ≤ 9223372036854775807) (hlm : es.length ≤ 70368744177664) (h1 : 0 < es.length) (hbare : bareB es = true) (hT : Lib.TabIs Tryz.prog w "internal/strconv.uint64pow10" .u64 Lib.pow10Tab) (hG : 14 < w.heap.size) :
    Calls Tryz.prog 7 #[.agg #[.bool false, .string s, .int .i64 n]] w fun e w' => e = .returned (.tuple #[.string (strOfNums (layT es n ps)), .bool true]) ∧ Below w.heap.size w w' := by
  have K0 : Below w.heap.size w (w.alloc (.cells #[.bool false, .string s, .int .i64 n] 23)) := (Below.refl _ _).alloc (Nat.le_refl _) _
  have C := cell3_new w (.bool false) (.string s) (.int .i64 n) 23
  have z1 : (w.alloc (.cells #[.bool false, .string s, .int .i64 n] 23)).heap.size = w.heap.size + 1 := by simp
  have HF := hide (show Bd (w.alloc (.cells #[.bool false, .string s, .int .i64 n] 23)).heap.size (w.alloc (.cells #[.bool false, .string s, .int .i64 n] 23)).heap.size [] _ from ⟨Lib.fresh_isBuilder 37 5 (w.alloc (.cells #[.bool false, .string s, .int .i64 n] 23)), ⟨by rw [z1]; omega, Lib.tabIs_alloc (Lib.tabIs_alloc hT _) _⟩⟩)
  have C1 := C.below (bel_new _ (.cells #[.pointer none, .slice none 0 0] 37))
  have K1 := below_trans K0 (bel_new _ (.cells #[.pointer none, .slice none 0 0] 37))
  rw [z1] at HF
  have HC1 := hide C1
  have HK1 := hide K1
  have HBR := hide (fun W : World => isBare_any (w := W) hb hs hl)
  rw [hbare] at HBR
  have HD := hide (And.intro hb (And.intro hs (And.intro h1 (And.intro hlm hp))))
  have c0 := C.c0; have c1 := C.c1; have c2 := C.c2
  clear C C1 K0 K1 z1 hb hs hl hbare h1 hlm hp hT hG
  go_enter Tryz.func7, Tryz.ntmps7
  go_wp2_with fail
  refine (HBR.out _).mono ?_
  clear HBR
  rintro e w1 ⟨rfl, rfl⟩
  clear c0 c1 c2
  have c0 := HC1.out.c0; have c1 := HC1.out.c1; have c2 := HC1.out.c2
  go_wp2_with fail
  refine (size_any HD.out.2.2.2.2 HD.out.1 HF.out (by simp) HD.out.2.1 HD.out.2.2.1 HD.out.2.2.2.1 (by simp)).mono ?_
  rintro e w2 ⟨rfl, h2, b2⟩
  have s2 := b2.size
  have KK := HK1.out
  have s1 : w.heap.size + 1 ≤ w2.heap.size := by simp at s2; omega
  go_wp2_with fail
  refine (bstring h2.1 s1).mono ?_
  rintro e w3 ⟨rfl, b3⟩
  have K := KK.trans ((b2.trans b3).mono (Nat.le_succ _))
  clear b2 b3 KK
  go_wp2
  go_ret2
  exact ⟨rfl, K⟩

set_option maxHeartbeats 4000000 in
set_option maxRecDepth 100000 in
theorem layout_neg {w : World} {s : ByteArray} {es ps : List Int} {n : Int} (hp : PowOk n ps) (hb : Byt es) (hs : s = strOfNums es) (hl : es.length ≤ 9223372036854775807) (hlm : es.length ≤ 70368744177664) (h1 : 0 < es.length) (hbare : bareB es = true) (hT : Lib.TabIs Tryz.prog w "internal/strconv.uint64pow10" .u64 Lib.pow10Tab) (hG : 14 < w.heap.size) :
    Calls Tryz.prog 7 #[.agg #[.bool true, .string s, .int .i64 n]] w fun e w' => e = .returned (.tuple #[.string (strOfNums ([45] ++ layT es n ps)), .bool true]) ∧ Below w.heap.size w w' := by
  have K0 : Below w.heap.size w (w.alloc (.cells #[.bool true, .string s, .int .i64 n] 23)) := (Below.refl _ _).alloc (Nat.le_refl _) _
  have C := cell3_new w (.bool true) (.string s) (.int .i64 n) 23
  have z1 : (w.alloc (.cells #[.bool true, .string s, .int .i64 n] 23)).heap.size = w.heap.size + 1 := by simp
  have HF := hide (show Bd (w.alloc (.cells #[.bool true, .string s, .int .i64 n] 23)).heap.size (w.alloc (.cells #[.bool true, .string s, .int .i64 n] 23)).heap.size [] _ from ⟨Lib.fresh_isBuilder 37 5 (w.alloc (.cells #[.bool true, .string s, .int .i64 n] 23)), ⟨by rw [z1]; omega, Lib.tabIs_alloc (Lib.tabIs_alloc hT _) _⟩⟩)
  have C1 := C.below (bel_new _ (.cells #[.pointer none, .slice none 0 0] 37))
  have K1 := below_trans K0 (bel_new _ (.cells #[.pointer none, .slice none 0 0] 37))
  rw [z1] at HF
  have HC1 := hide C1
  have HK1 := hide K1
  have HBR := hide (fun W : World => isBare_any (w := W) hb hs hl)
  rw [hbare] at HBR
  have HD := hide (And.intro hb (And.intro hs (And.intro h1 (And.intro hlm hp))))
  have c0 := C.c0; have c1 := C.c1; have c2 := C.c2
  clear C C1 K0 K1 z1 hb hs hl hbare h1 hlm hp hT hG
  go_enter Tryz.func7, Tryz.ntmps7
  go_wp2_with fail
  refine (HBR.out _).mono ?_
  clear HBR
  rintro e w1 ⟨rfl, rfl⟩
  clear c0 c1 c2
  have c0 := HC1.out.c0; have c1 := HC1.out.c1; have c2 := HC1.out.c2
  go_wp2_with fail
  refine (HF.out.byte (c := 45) (by omega) (by omega) (by simp) (by simp)).mono ?_
  rintro e w2 ⟨rfl, g2, b2⟩
  have hcl : ∀ i, w2.cell? ⟨w.heap.size, i, none⟩ = ((w.alloc (.cells #[.bool true, .string s, .int .i64 n] 23)).alloc (.cells #[.pointer none, .slice none 0 0] 37)).cell? ⟨w.heap.size, i, none⟩ := fun i => b2.cell (p := ⟨w.heap.size, i, none⟩) (by show w.heap.size < w.heap.size + 1; omega)
  clear c0 c1 c2
  have c0 := (hcl 0).trans HC1.out.c0
  have c1 := (hcl 1).trans HC1.out.c1
  have c2 := (hcl 2).trans HC1.out.c2
  have s2 := b2.size
  have s1 : w.heap.size + 1 ≤ w2.heap.size := by simp at s2; omega
  clear hcl
  go_wp2_with fail
  refine (size_any HD.out.2.2.2.2 HD.out.1 g2 s1 HD.out.2.1 HD.out.2.2.1 HD.out.2.2.2.1 (by simp)).mono ?_
  rintro e w3 ⟨rfl, h2, b3⟩
  have s3 := b3.size
  have KK := HK1.out
  go_wp2_with fail
  refine (bstring h2.1 (by omega)).mono ?_
  rintro e w4 ⟨rfl, b4⟩
  have K := KK.trans (((b2.trans b3).trans b4).mono (Nat.le_succ _))
  clear b2 b3 b4 KK
  go_wp2
  go_ret2
  exact ⟨rfl, K⟩

end Go.Proofs.YtinfkoiifemjmaaGreatDoor
