/- ELg, ELb, ELs -/
import Derived.Test.YtinfkoiifemjmaaGreatDoorS06
import Derived.Test.YtinfkoiifemjmaaGreatDoorS20
import Derived.Deep.Cut
import Derived.Lib.AppendIntMem
import Derived.Shelf.Strconv.Itoa2
namespace Go.Proofs.YtinfkoiifemjmaaGreatDoor
open Go.RowKit
set_option linter.unusedVariables false

set_option maxHeartbeats 2000000 in
set_option maxRecDepth 100000 in
theorem bbyte {B b : Nat} {bs : List Value} {c : Int} {w : World} (h : Lib.IsBuilder 37 5 B b bs w) (hlen : bs.length + 1 ≤ 140737488355328) (hBw : B ≤ w.heap.size) :
    Calls Tryz.prog 16 #[.pointer (some ⟨b, 0, none⟩), .int .u8 c] w fun e w' => e = .returned .nilIface ∧ (Lib.IsBuilder 37 5 B b (bs ++ [.int .u8 c]) w' ∧ Below B w w') := by
  obtain ⟨i0, hi, hz0, hz1, hz2⟩ := info_parts binf
  go_enter Tryz.func16, Tryz.ntmps16
  go_wp2_with fail
  refine (bchk h).mono ?_
  rintro e w1 ⟨rfl, h1, hb1⟩
  obtain ⟨hB, v, hbk, hown, hne⟩ := h1
  have c0 : w1.cell? ⟨b, 0, none⟩ = some (.pointer (some ⟨b, 0, none⟩)) := by rw [Lib.cell_of_heap hbk]; rfl
  have c1 : w1.cell? ⟨b, 1, none⟩ = some v := by rw [Lib.cell_of_heap hbk]; rfl
  go_wp2_with (at_builtin; refine wpList_append_own _ rfl _ _ 35 rfl B 5 i0 (.int .u8 0) 1 1 Tryz.underlying35 hi hz0 hz1 hz2 rfl (by decide) _ _ _ rfl (hown.alloc _) ⟨w1.heap.size, 0, none⟩ 1 1 [.int .u8 c] rfl rfl ?c1 ?c2 ?c3 ?c4 ?c5 ?_)
  case c1 =>
    intro j u hj
    match j, hj with
    | 0, hj => simp at hj; subst hj; simp [Addr.add]
  case c2 => intro u hu; simp at hu; subst hu; rfl
  case c3 => unfold maxLen; omega
  case c4 => omega
  case c5 => have := hb1.size; simp; omega
  intro v' w2 hown' hgrow _
  have hlt : b < w1.heap.size := (Array.getElem?_eq_some_iff.1 hbk).1
  have hb2 : w2.heap[b]? = some (.cells #[.pointer (some ⟨b, 0, none⟩), v] 37 (0, 0)) := by
    rw [hgrow.block b (by simp; omega) (fun e => hne e.symm), Lib.alloc_old w1 _ b hlt]
    exact hbk
  have d0 : w2.cell? ⟨b, 0, none⟩ = some (.pointer (some ⟨b, 0, none⟩)) := by rw [Lib.cell_of_heap hb2]; rfl
  have d1 : w2.cell? ⟨b, 1, none⟩ = some v := by rw [Lib.cell_of_heap hb2]; rfl
  have f1 : w2.frozen? ⟨b, 1, none⟩ = false := Lib.frozen_of_heap hb2 1
  obtain ⟨g, cap, rfl⟩ : ∃ g cap, v' = .slice (some ⟨g, 0, none⟩) (bs.length + 1) cap := by
    rcases hown'.2 with ⟨_, h0⟩ | ⟨g, cap, cur, hv, _⟩
    · omega
    · exact ⟨g, cap, hv⟩
  go_wp2
  go_ret
  refine ⟨rfl, Or.inr ?_, ?_⟩
  · exact Lib.BuilderAt.put (T := 37) (e := 5) hB hb2 (bs' := bs ++ [.int .u8 c]) (by simpa using hown') (by decide)
  · exact ((hb1.alloc (by have := hb1.size; omega) _).grown hgrow (by have := hb1.size; simp; omega) (fun k hk => (hown.lt k hk).1)).setCell (p := ⟨b, 1, none⟩) hB _

/-- a list of bytes as numbers, as the bytes themselves -/
def byE (es : List Int) : List UInt8 := es.map fun x => UInt8.ofNat x.toNat
theorem byE_len (es : List Int) : (byE es).length = es.length := by simp [byE]
theorem byE_app (a b : List Int) : byE (a ++ b) = byE a ++ byE b := by simp [byE]
/-- strconv's table lies where it was laid, below B -/
def Pt (B : Nat) (w : World) : Prop := 14 < B ∧ Lib.TabIs Tryz.prog w "internal/strconv.uint64pow10" .u64 Lib.pow10Tab
theorem gPow : Tryz.prog.globalNamed "internal/strconv.uint64pow10" = some 14 := by kernel_rfl
theorem Pt.below {B : Nat} {w w' : World} (h : Pt B w) (hb : Below B w w') : Pt B w' := by
  refine ⟨h.1, ?_⟩
  have h2 := h.2
  unfold Lib.TabIs at h2 ⊢
  simp only [World.var?, gPow, Option.bind_some] at h2 ⊢
  rw [hb.block _ h.1]
  exact h2
/-- the builder holds these bytes -/
def Bd (B b : Nat) (es : List Int) (w : World) : Prop := Lib.IsBuilder 37 5 B b (Lib.byteCells (byE es)) w ∧ Pt B w
theorem Bd.below {B b : Nat} {es : List Int} {w w' : World} (h : Bd B b es w) (hb : Below w.heap.size w w') (hB : B ≤ w.heap.size) : Bd B b es w' := by
  refine ⟨?_, h.2.below (hb.mono hB)⟩
  have key : ∀ p, Lib.BuilderAt 37 5 B b p (Lib.byteCells (byE es)) w → Lib.BuilderAt 37 5 B b p (Lib.byteCells (byE es)) w' := by
    rintro p ⟨h1, v, h2, h3, h4⟩
    refine ⟨h1, v, ?_, ?_, h4⟩
    · rw [hb.block b (Array.getElem?_eq_some_iff.1 h2).1]; exact h2
    · exact h3.kept (row := none) ⟨hb.os, hb.tape, hb.output, hb.size, fun k hk _ => hb.block k hk⟩ (by cases v.ownBlock <;> simp)
  rcases h.1 with g | g
  · exact Or.inl (key _ g)
  · exact Or.inr (key _ g)
theorem Bd.str {B b : Nat} {es fs : List Int} {s : ByteArray} {w : World} (h : Bd B b es w) (hs : s = strOfNums fs) (hl : es.length + fs.length ≤ 140737488355328) (hBw : B ≤ w.heap.size) :
    Calls Tryz.prog 32 #[.pointer (some ⟨b, 0, none⟩), .string s] w fun e w' => e = .returned (.tuple #[.int .i64 s.size, .nilIface]) ∧ Bd B b (es ++ fs) w' ∧ Below B w w' := by
  subst hs
  refine (bstr h.1 (by rw [Lib.byteCells_length, byE_len, strOfNums_size]; exact hl) hBw).mono ?_
  rintro e w' ⟨rfl, h1, hb⟩
  refine ⟨rfl, ⟨?_, h.2.below hb⟩, hb⟩
  rw [byE_app, Lib.byteCells_append]
  exact h1
theorem Bd.byte {B b : Nat} {es : List Int} {c : Int} {w : World} (h : Bd B b es w) (c0 : 0 ≤ c) (c1 : c < 256) (hl : es.length + 1 ≤ 140737488355328) (hBw : B ≤ w.heap.size) :
    Calls Tryz.prog 16 #[.pointer (some ⟨b, 0, none⟩), .int .u8 c] w fun e w' => e = .returned .nilIface ∧ Bd B b (es ++ [c]) w' ∧ Below B w w' := by
  refine (bbyte h.1 (by rw [Lib.byteCells_length, byE_len]; exact hl) hBw).mono ?_
  rintro e w' ⟨rfl, h1, hb⟩
  refine ⟨rfl, ⟨?_, h.2.below hb⟩, hb⟩
  rw [byE_app, Lib.byteCells_append]
  have e : Lib.byteCells (byE [c]) = [.int .u8 c] := by
    simp [byE, Lib.byteCells]
    omega
  rw [e]
  exact h1

set_option maxHeartbeats 4000000 in
set_option maxRecDepth 100000 in
theorem noughts_any {B b : Nat} {es : List Int} {n : Nat} {w : World} (h : Bd B b es w) (hl : es.length + n ≤ 140737488355328) (hBw : B ≤ w.heap.size) :
    Calls Tryz.prog 33 #[.pointer (some ⟨b, 0, none⟩), .int .i64 n] w fun e w' => e = .returned (.tuple #[]) ∧ Bd B b (es ++ List.replicate n 48) w' ∧ Below B w w' := by
  have H0 := hide h
  clear h
  go_enter Tryz.func33, Tryz.ntmps33
  go_wp2
  go_loopg [5] n (fun c i wr => ∃ k : Nat, k ≤ n ∧ c = n - k ∧ i = .int .i64 k ∧ Hid (Bd B b (es ++ List.replicate k 48) wr) ∧ Below B w wr)
  case atStart => exact ⟨0, by omega, rfl, rfl, hide (by simpa using H0.out), Below.refl _ _⟩
  case round =>
    obtain ⟨k, hk, hgk, rfl, HB, K⟩ := hrel
    rename World => wr
    by_cases hkl : k < n
    · have q4 : (k : Int) < (n : Int) := by omega
      have ks := K.size
      have hlen : (es ++ List.replicate k (48 : Int)).length + 1 ≤ 140737488355328 := by simp; omega
      go_wp2_with fail
      refine (HB.out.byte (c := 48) (by omega) (by omega) hlen (by omega)).mono ?_
      rintro e w1 ⟨rfl, h1, b1⟩
      have H1 := hide h1
      have K1 := K.trans b1
      clear h1 b1 K hlen ks
      go_wp2
      go_roundg (n - (k + 1))
      case measure => omega
      case rel => exact ⟨k + 1, by omega, rfl, by simp, hide (by have := H1.out; rw [List.append_assoc] at this; rw [List.replicate_succ']; exact this), K1⟩
    · have hke : k = n := by omega
      subst hke
      go_wp2
      go_end0
      exact ⟨rfl, HB.out, K⟩

end Go.Proofs.YtinfkoiifemjmaaGreatDoor

namespace Go.Proofs.YtinfkoiifemjmaaGreatDoor
open Go.RowKit
set_option linter.unusedVariables false

/-- one digit or more, the first and the last no nought -/
def bareB (es : List Int) : Bool := decide (0 < es.length) && (Nt.lb es 0 != 48) && (Nt.lb es (es.length - 1) != 48) && es.all isD
theorem all_drop {es : List Int} {k : Nat} (h : k < es.length) : (es.drop k).all isD = (isD (Nt.lb es k) && (es.drop (k + 1)).all isD) := by
  rw [drop_lb h, List.all_cons]
set_option maxHeartbeats 4000000 in
set_option maxRecDepth 100000 in
theorem isBare_any {w : World} {s : ByteArray} {es : List Int} (hb : Byt es) (hs : s = strOfNums es) (hl : es.length ≤ 9223372036854775807) :
    Calls Tryz.prog 15 #[.string s] w fun e w' => e = .returned (.bool (bareB es)) ∧ w' = w := by
  have hsz : s.size = es.length := by rw [hs, strOfNums_size]
  have Hix := hide (show ∀ p (h : p < s.size), (((s[p]'h).toNat : Nat) : Int) = Nt.lb es p from fun p h => by subst hs; exact txt_at h hb)
  have HB := hide (show ∀ p, p < es.length → 0 ≤ Nt.lb es p ∧ Nt.lb es p < 256 from fun p h => hb _ (lb_in h))
  by_cases h0 : es = []
  · subst h0
    have hse : s = ⟨#[]⟩ := hs
    subst hse
    go_enter Tryz.func15, Tryz.ntmps15
    go_wp2
    go_ret
    exact ⟨rfl, rfl⟩
  have hp : 0 < es.length := by cases es with | nil => exact absurd rfl h0 | cons a r => simp
  obtain ⟨L, hL⟩ : ∃ L, es.length = L := ⟨_, rfl⟩
  obtain ⟨R, hR⟩ : ∃ R, bareB es = R := ⟨_, rfl⟩
  have HRR := hide (show R = ((Nt.lb es 0 != 48) && (Nt.lb es (L - 1) != 48) && es.all isD) by rw [← hR, ← hL]; unfold bareB; simp [hp])
  rw [hR]
  rw [hL] at hsz hl hp
  have HL := hide hL
  have hps0 : 0 < s.size := by omega
  have hps1 : L - 1 < s.size := by omega
  have i0 := Hix.out 0 hps0
  have i1 := Hix.out (L - 1) hps1
  have hne2 : ¬ s.toList = [] := fun e => by
    have : s.toList.length = 0 := by rw [e]; rfl
    rw [ByteArray.toList_eq, Array.length_toList] at this
    have e2 : s.data.size = s.size := rfl
    omega
  have hne3 : (s.toList == []) = false := beq_eq_false_iff_ne.2 hne2
  obtain ⟨a, ha⟩ : ∃ a, Nt.lb es 0 = a := ⟨_, rfl⟩
  obtain ⟨z, hz⟩ : ∃ z, Nt.lb es (L - 1) = z := ⟨_, rfl⟩
  rw [ha] at i0 HRR
  rw [hz] at i1 HRR
  have l1 : ((L - 1 : Nat) : Int) = (L : Int) - 1 := by omega
  have l2 : (0 : Int) ≤ (L : Int) - 1 := by omega
  have l3 : (L : Int) - 1 < (L : Int) := by omega
  have l4 : IntKind.i64.wrap ((L : Int) - 1) = (L : Int) - 1 := by rw [IntKind.wrap_i64]; omega
  have l5 : ((L : Int) - 1).toNat = L - 1 := by omega
  clear hs hb hL hR ha hz h0
  by_cases h1 : a = 48
  · have HF := hide (show R = false by rw [HRR.out, h1]; rfl)
    have e1 : (a == 48) = true := by simp [h1]
    clear h1 HRR i1
    go_enter Tryz.func15, Tryz.ntmps15
    go_wp2
    go_ret
    exact ⟨by rw [HF.out]; rfl, rfl⟩
  have e1 : (a == 48) = false := beq_eq_false_iff_ne.2 h1
  by_cases h2 : z = 48
  · have HF := hide (show R = false by rw [HRR.out, h2]; simp)
    have e2 : (z == 48) = true := by simp [h2]
    clear h2 HRR h1
    go_enter Tryz.func15, Tryz.ntmps15
    go_wp2
    go_ret
    exact ⟨by rw [HF.out]; rfl, rfl⟩
  have e2 : (z == 48) = false := beq_eq_false_iff_ne.2 h2
  have HS0 := hide (show R = (es.drop 0).all isD by rw [HRR.out]; simp [h1, h2])
  clear h1 h2 HRR
  go_enter Tryz.func15, Tryz.ntmps15
  go_wp2
  clear i0 i1 e1 e2 l1 l2 l3 l4 l5 hne2 hne3 hps0 hps1
  go_loopg [21] L (fun c i wr => ∃ k : Nat, k ≤ L ∧ c = L - k ∧ i = .int .i64 k ∧ Hid (R = (es.drop k).all isD) ∧ w = wr)
  case atStart => exact ⟨0, by omega, rfl, rfl, HS0, rfl⟩
  case round =>
    obtain ⟨k, hk, hgk, rfl, HR, hw⟩ := hrel
    subst hw
    by_cases hkl : k < L
    · have hps : k < s.size := by omega
      have hx := Hix.out k hps
      have hb9 := HB.out k (by rw [HL.out]; exact hkl)
      have hal := all_drop (es := es) (k := k) (by rw [HL.out]; exact hkl)
      obtain ⟨c, hc⟩ : ∃ c, Nt.lb es k = c := ⟨_, rfl⟩
      rw [hc] at hx hb9 hal
      obtain ⟨x0, x1⟩ := hb9
      have HAL := hide hal
      have q4 : (k : Int) < (L : Int) := by omega
      clear hc hal
      cases hd : isD c with
      | true =>
        have HN := hide (show R = (es.drop (k + 1)).all isD by rw [HR.out, HAL.out, hd, Bool.true_and])
        go_wp2_with fail
        refine (eisDigit_any x0 x1).mono ?_
        rintro e w1 ⟨rfl, rfl⟩
        rw [hd]
        go_wp2
        go_roundg (L - (k + 1))
        case measure => omega
        case rel => exact ⟨k + 1, by omega, rfl, by simp, HN, rfl⟩
      | false =>
        have HF := hide (show R = false by rw [HR.out, HAL.out, hd, Bool.false_and])
        go_wp2_with fail
        refine (eisDigit_any x0 x1).mono ?_
        rintro e w1 ⟨rfl, rfl⟩
        rw [hd]
        go_wp2
        go_ret
        exact ⟨by rw [HF.out]; rfl, rfl⟩
    · have hke : k = L := by omega
      subst hke
      have HF := hide (show R = true by rw [HR.out, List.drop_of_length_le (by rw [HL.out]; exact Nat.le_refl _)]; rfl)
      go_wp2
      go_ret
      exact ⟨by rw [HF.out]; rfl, rfl⟩

end Go.Proofs.YtinfkoiifemjmaaGreatDoor

namespace Go.Proofs.YtinfkoiifemjmaaGreatDoor
open Go.RowKit
set_option linter.unusedVariables false

set_option maxHeartbeats 4000000 in
set_option maxRecDepth 100000 in
theorem size_1 {w : World} {B b L : Nat} {es fs : List Int} {s : ByteArray} {n : Int} (h : Bd B b fs w) (hBw : B ≤ w.heap.size) (hs : s = strOfNums es) (hL : es.length = L) (h1 : (L : Int) ≤ n) (h2 : n ≤ 21) (hf : fs.length ≤ 100) :
    Calls Tryz.prog 17 #[.pointer (some ⟨b, 0, none⟩), .string s, .int .i64 n] w fun e w' => e = .returned (.tuple #[]) ∧ Bd B b (fs ++ es ++ List.replicate (n - L).toNat 48) w' ∧ Below B w w' := by
  have hsz : s.size = L := by rw [hs, strOfNums_size, hL]
  have HS := hide hs
  have HL := hide hL
  have f1 : ¬ n < (L : Int) := by omega
  have f2 : ¬ 21 < n := by omega
  obtain ⟨m, hm⟩ : ∃ m : Nat, n - L = (m : Int) := ⟨(n - L).toNat, by omega⟩
  have hw : IntKind.i64.wrap (n - L) = (m : Int) := by rw [IntKind.wrap_i64]; omega
  have HM := hide (show (n - L).toNat = m by omega)
  have hm21 : m ≤ 21 := by omega
  clear hs hL
  go_enter Tryz.func17, Tryz.ntmps17
  go_wp2_with fail
  refine (h.str HS.out (by have := HL.out; omega) hBw).mono ?_
  rintro e w1 ⟨rfl, g1, b1⟩
  have s1 := b1.size
  go_wp2_with fail
  refine (noughts_any (n := m) g1 (by rw [List.length_append, HL.out]; omega) (by omega)).mono ?_
  rintro e w2 ⟨rfl, g2, b2⟩
  have K := b1.trans b2
  have G := hide g2
  clear b1 b2 s1 g1 g2 h
  go_wp2
  go_end0
  exact ⟨rfl, by rw [HM.out]; exact G.out, K⟩

set_option maxHeartbeats 4000000 in
set_option maxRecDepth 100000 in
theorem size_2 {w : World} {B b L n : Nat} {es fs : List Int} {s : ByteArray} (h : Bd B b fs w) (hBw : B ≤ w.heap.size) (hs : s = strOfNums es) (hL : es.length = L) (hl : L ≤ 70368744177664) (h1 : n < L) (h0 : 0 < n) (h2 : n ≤ 21) (hf : fs.length ≤ 100) :
    Calls Tryz.prog 17 #[.pointer (some ⟨b, 0, none⟩), .string s, .int .i64 n] w fun e w' => e = .returned (.tuple #[]) ∧ Bd B b (fs ++ es.take n ++ [46] ++ es.drop n) w' ∧ Below B w w' := by
  have hsz : s.size = L := by rw [hs, strOfNums_size, hL]
  have HL := hide hL
  have f1 : (n : Int) < (L : Int) := by omega
  have f2 : ¬ (21 : Int) < (n : Int) := by omega
  have f3 : (0 : Int) < (n : Int) := by omega
  have f4 : (n : Int) ≤ (L : Int) := by omega
  have x1 : s.extract 0 n = strOfNums (es.take n) := by rw [hs, txt_cut, List.drop_zero]
  have x2 : s.extract n L = strOfNums (es.drop n) := by rw [hs, txt_cut, ← hL, List.take_length]
  obtain ⟨t1, ht1⟩ : ∃ t, strOfNums (es.take n) = t := ⟨_, rfl⟩
  obtain ⟨t2, ht2⟩ : ∃ t, strOfNums (es.drop n) = t := ⟨_, rfl⟩
  rw [ht1] at x1
  rw [ht2] at x2
  have HT1 := hide ht1.symm
  have HT2 := hide ht2.symm
  have HN1 := hide (show (es.take n).length ≤ 21 by rw [List.length_take]; omega)
  have HN2 := hide (show (es.drop n).length ≤ L by rw [List.length_drop]; omega)
  clear hs hL ht1 ht2
  go_enter Tryz.func17, Tryz.ntmps17
  go_wp2_with fail
  refine (h.str HT1.out (by have := HN1.out; omega) hBw).mono ?_
  rintro e w1 ⟨rfl, g1, b1⟩
  have s1 := b1.size
  go_wp2_with fail
  refine (g1.byte (c := 46) (by omega) (by omega) (by rw [List.length_append]; have := HN1.out; omega) (by omega)).mono ?_
  rintro e w2 ⟨rfl, g2, b2⟩
  have s2 := b2.size
  go_wp2_with fail
  refine (g2.str HT2.out (by rw [List.length_append, List.length_append, List.length_singleton]; have := HN1.out; have := HN2.out; omega) (by omega)).mono ?_
  rintro e w3 ⟨rfl, g3, b3⟩
  have K := (b1.trans b2).trans b3
  have G := hide g3
  clear b1 b2 b3 s1 s2 g1 g2 g3 h
  go_wp2
  go_end0
  exact ⟨rfl, G.out, K⟩

set_option maxHeartbeats 4000000 in
set_option maxRecDepth 100000 in
theorem size_3 {w : World} {B b L m : Nat} {n : Int} {es fs : List Int} {s : ByteArray} (h : Bd B b fs w) (hBw : B ≤ w.heap.size) (hs : s = strOfNums es) (hL : es.length = L) (hl : L ≤ 70368744177664) (h1 : 0 < L) (hn : n = -(m : Int)) (h2 : m < 6) (hf : fs.length ≤ 100) :
    Calls Tryz.prog 17 #[.pointer (some ⟨b, 0, none⟩), .string s, .int .i64 n] w fun e w' => e = .returned (.tuple #[]) ∧ Bd B b (fs ++ [48, 46] ++ List.replicate m 48 ++ es) w' ∧ Below B w w' := by
  have hsz : s.size = L := by rw [hs, strOfNums_size, hL]
  have HL := hide hL
  have HS := hide hs
  have f1 : n < (L : Int) := by omega
  have f3 : ¬ (0 : Int) < n := by omega
  have f4 : (-6 : Int) < n := by omega
  have hw : IntKind.i64.wrap (-n) = (m : Int) := by rw [IntKind.wrap_i64]; omega
  clear hs hL hn
  go_enter Tryz.func17, Tryz.ntmps17
  go_wp2_with fail
  refine (h.str (fs := [48, 46]) rfl (by simp; omega) hBw).mono ?_
  rintro e w1 ⟨rfl, g1, b1⟩
  have s1 := b1.size
  go_wp2_with fail
  refine (noughts_any (n := m) g1 (by simp; omega) (by omega)).mono ?_
  rintro e w2 ⟨rfl, g2, b2⟩
  have s2 := b2.size
  go_wp2_with fail
  refine (g2.str HS.out (by simp; have := HL.out; omega) (by omega)).mono ?_
  rintro e w3 ⟨rfl, g3, b3⟩
  have K := (b1.trans b2).trans b3
  have G := hide g3
  clear b1 b2 b3 s1 s2 g1 g2 g3 h
  go_wp2
  go_end0
  exact ⟨rfl, G.out, K⟩

/-- what writePower writes -/
def PowOk (n : Int) (ps : List Int) : Prop := ∀ (B b : Nat) (fs : List Int) (w : World), Bd B b fs w → B ≤ w.heap.size → fs.length ≤ 70368744177864 → Calls Tryz.prog 34 #[.pointer (some ⟨b, 0, none⟩), .int .i64 n] w fun e w' => e = .returned (.tuple #[]) ∧ Bd B b (fs ++ ps) w' ∧ Below B w w'
set_option maxHeartbeats 4000000 in
set_option maxRecDepth 100000 in
theorem size_4 {w : World} {B b L : Nat} {n : Int} {es fs ps : List Int} {s : ByteArray} (hp : PowOk n ps) (hb : Byt es) (h : Bd B b fs w) (hBw : B ≤ w.heap.size) (hs : s = strOfNums es) (hL : es.length = L) (hl : L ≤ 70368744177664) (h1 : 1 < L) (hn : n ≤ -6 ∨ 21 < n) (hf : fs.length ≤ 100) :
    Calls Tryz.prog 17 #[.pointer (some ⟨b, 0, none⟩), .string s, .int .i64 n] w fun e w' => e = .returned (.tuple #[]) ∧ Bd B b (fs ++ [Nt.lb es 0] ++ [46] ++ es.drop 1 ++ ps) w' ∧ Below B w w' := by
  have hsz : s.size = L := by rw [hs, strOfNums_size, hL]
  have HL := hide hL
  have hps0 : 0 < s.size := by omega
  have i0 : (((s[0]'hps0).toNat : Nat) : Int) = Nt.lb es 0 := by subst hs; exact txt_at hps0 hb
  have c01 := hb _ (lb_in (es := es) (p := 0) (by omega))
  obtain ⟨c, hc⟩ : ∃ c, Nt.lb es 0 = c := ⟨_, rfl⟩
  rw [hc] at i0 c01 ⊢
  obtain ⟨c0, c1⟩ := c01
  have x2 : s.extract 1 L = strOfNums (es.drop 1) := by rw [hs, txt_cut, ← hL, List.take_length]
  obtain ⟨t2, ht2⟩ : ∃ t, strOfNums (es.drop 1) = t := ⟨_, rfl⟩
  rw [ht2] at x2
  have HT2 := hide ht2.symm
  have HN2 := hide (show (es.drop 1).length ≤ L by rw [List.length_drop]; omega)
  have HP := hide hp
  have f5 : (1 : Int) < (L : Int) := by omega
  have f6 : (1 : Int) ≤ (L : Int) := by omega
  have K4 : ∃ w', True := ⟨w, trivial⟩
  have main : ∀ (hcase : (n < (L : Int) ∧ ¬ 0 < n ∧ ¬ -6 < n) ∨ (21 < n)), Calls Tryz.prog 17 #[.pointer (some ⟨b, 0, none⟩), .string s, .int .i64 n] w fun e w' => e = .returned (.tuple #[]) ∧ Bd B b (fs ++ [c] ++ [46] ++ es.drop 1 ++ ps) w' ∧ Below B w w' := by
    intro hcase
    have tail : ∀ (w0 : World), True := fun _ => trivial
    rcases hcase with ⟨f1, f2, f3⟩ | f1
    · clear hs hL ht2 hc hn K4 tail hp
      go_enter Tryz.func17, Tryz.ntmps17
      go_wp2_with fail
      refine (h.byte c0 c1 (by omega) hBw).mono ?_
      rintro e w1 ⟨rfl, g1, b1⟩
      have s1 := b1.size
      go_wp2_with fail
      refine (g1.byte (c := 46) (by omega) (by omega) (by simp; omega) (by omega)).mono ?_
      rintro e w2 ⟨rfl, g2, b2⟩
      have s2 := b2.size
      go_wp2_with fail
      refine (g2.str HT2.out (by simp; have := HN2.out; simp at this; omega) (by omega)).mono ?_
      rintro e w3 ⟨rfl, g3, b3⟩
      have s3 := b3.size
      go_wp2_with fail
      refine (HP.out B b _ _ g3 (by omega) (by simp; have := HN2.out; simp at this; omega)).mono ?_
      rintro e w4 ⟨rfl, g4, b4⟩
      have K := ((b1.trans b2).trans b3).trans b4
      have G := hide g4
      clear b1 b2 b3 b4 s1 s2 s3 g1 g2 g3 g4 h
      go_wp2
      go_end0
      exact ⟨rfl, G.out, K⟩
    · have f7 : ¬ n ≤ 21 := by omega
      have f8 : (0 : Int) < n := by omega
      have f9 : (-6 : Int) < n := by omega
      have f10 : ¬ n ≤ 0 := by omega
      by_cases f11 : n < (L : Int)
      · clear hs hL ht2 hc hn K4 tail hp
        go_enter Tryz.func17, Tryz.ntmps17
        go_wp2_with fail
        refine (h.byte c0 c1 (by omega) hBw).mono ?_
        rintro e w1 ⟨rfl, g1, b1⟩
        have s1 := b1.size
        go_wp2_with fail
        refine (g1.byte (c := 46) (by omega) (by omega) (by simp; omega) (by omega)).mono ?_
        rintro e w2 ⟨rfl, g2, b2⟩
        have s2 := b2.size
        go_wp2_with fail
        refine (g2.str HT2.out (by simp; have := HN2.out; simp at this; omega) (by omega)).mono ?_
        rintro e w3 ⟨rfl, g3, b3⟩
        have s3 := b3.size
        go_wp2_with fail
        refine (HP.out B b _ _ g3 (by omega) (by simp; have := HN2.out; simp at this; omega)).mono ?_
        rintro e w4 ⟨rfl, g4, b4⟩
        have K := ((b1.trans b2).trans b3).trans b4
        have G := hide g4
        clear b1 b2 b3 b4 s1 s2 s3 g1 g2 g3 g4 h
        go_wp2
        go_end0
        exact ⟨rfl, G.out, K⟩
      · clear hs hL ht2 hc hn K4 tail hp
        go_enter Tryz.func17, Tryz.ntmps17
        go_wp2_with fail
        refine (h.byte c0 c1 (by omega) hBw).mono ?_
        rintro e w1 ⟨rfl, g1, b1⟩
        have s1 := b1.size
        go_wp2_with fail
        refine (g1.byte (c := 46) (by omega) (by omega) (by simp; omega) (by omega)).mono ?_
        rintro e w2 ⟨rfl, g2, b2⟩
        have s2 := b2.size
        go_wp2_with fail
        refine (g2.str HT2.out (by simp; have := HN2.out; simp at this; omega) (by omega)).mono ?_
        rintro e w3 ⟨rfl, g3, b3⟩
        have s3 := b3.size
        go_wp2_with fail
        refine (HP.out B b _ _ g3 (by omega) (by simp; have := HN2.out; simp at this; omega)).mono ?_
        rintro e w4 ⟨rfl, g4, b4⟩
        have K := ((b1.trans b2).trans b3).trans b4
        have G := hide g4
        clear b1 b2 b3 b4 s1 s2 s3 g1 g2 g3 g4 h
        go_wp2
        go_end0
        exact ⟨rfl, G.out, K⟩
  exact main (by omega)

end Go.Proofs.YtinfkoiifemjmaaGreatDoor
