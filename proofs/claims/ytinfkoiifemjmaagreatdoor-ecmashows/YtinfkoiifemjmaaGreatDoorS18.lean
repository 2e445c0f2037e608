/- EAny, EAcc, EVo, EAcd -/
import Derived.Test.YtinfkoiifemjmaaGreatDoorS17
import Derived.Shelf.Strings.Runes
import Derived.Shelf.Strings.IndexAny
import Derived.Shelf.Strings.AsciiSet
import Derived.Shelf.Strings.IndexAnyAll
namespace Go.Proofs.YtinfkoiifemjmaaGreatDoor
open Go.RowKit Go.Shelf
set_option linter.unusedVariables false

def flays153_ren : Go.Shelf.Ren := ⟨fun | 153 => 61 | 152 => 96 | 226 => 97 | 227 => 98 | 228 => 99 | 137 => 134 | 119 => 135 | 224 => 136 | 225 => 137 | 217 => 173 | 266 => 186 | n => n, fun | 9 => 9 | 3 => 3 | 4 => 4 | 5 => 5 | 21 => 21 | 117 => 147 | 116 => 146 | 0 => 0 | 46 => 50 | 124 => 195 | n => n, fun | n => n⟩
theorem flays153 : Go.Proofs.Lays.n153 Tryz.prog flays153_ren := {
  mixed := by kernel_rfl
  f119 := Tryz.func135.trans (congrArg some (by kernel_rfl))
  f137 := Tryz.func134.trans (congrArg some (by kernel_rfl))
  f152 := Tryz.func96.trans (congrArg some (by kernel_rfl))
  f153 := Tryz.func61.trans (congrArg some (by kernel_rfl))
  f217 := Tryz.func173.trans (congrArg some (by kernel_rfl))
  f224 := Tryz.func136.trans (congrArg some (by kernel_rfl))
  f225 := Tryz.func137.trans (congrArg some (by kernel_rfl))
  f226 := Tryz.func97.trans (congrArg some (by kernel_rfl))
  f227 := Tryz.func98.trans (congrArg some (by kernel_rfl))
  f228 := Tryz.func99.trans (congrArg some (by kernel_rfl))
  f266 := Tryz.func186.trans (congrArg some (by kernel_rfl))
  t0 := Tryz.underlying0
  a0 := Tryz.isAgg0
  z0 := Tryz.sizeOf0
  v0 := Tryz.zeroValue0
  t3 := Tryz.underlying3
  a3 := Tryz.isAgg3
  z3 := Tryz.sizeOf3
  v3 := Tryz.zeroValue3
  t4 := Tryz.underlying4
  a4 := Tryz.isAgg4
  z4 := Tryz.sizeOf4
  v4 := Tryz.zeroValue4
  t5 := Tryz.underlying5
  a5 := Tryz.isAgg5
  z5 := Tryz.sizeOf5
  v5 := Tryz.zeroValue5
  t9 := Tryz.underlying9
  a9 := Tryz.isAgg9
  z9 := Tryz.sizeOf9
  v9 := Tryz.zeroValue9
  t21 := Tryz.underlying21
  a21 := Tryz.isAgg21
  z21 := Tryz.sizeOf21
  v21 := Tryz.zeroValue21
  t46 := Tryz.underlying50
  a46 := Tryz.isAgg50
  z46 := Tryz.sizeOf50
  v46 := Tryz.zeroValue50
  t116 := Tryz.underlying146
  a116 := Tryz.isAgg146
  z116 := Tryz.sizeOf146
  t117 := Tryz.underlying147
  a117 := Tryz.isAgg147
  z117 := Tryz.sizeOf147
  v117 := Tryz.zeroValue147
  t124 := Tryz.underlying195
  a124 := Tryz.isAgg195
  z124 := Tryz.sizeOf195
  v124 := Tryz.zeroValue195 }
open Go.RowKit Go.Lib in
theorem fany (s chars : ByteArray) (w : World) (hs : s.size < 4294967281) (hcs : chars.size < 4294967281) (has : ∀ (j : Nat) b, s.data.toList[j]? = some b → b.toNat < 128) (hac : ∀ (j : Nat) b, chars.data.toList[j]? = some b → b.toNat < 128) :
    Calls Tryz.prog 61 #[.string s, .string chars] w fun e w' => e = .returned (.int .i64 (Lib.indexAny s.data.toList chars.data.toList)) ∧ Below w.heap.size w w' := Any.strings_IndexAny_laid flays153 (by kernel_rfl) s chars w hs hcs has hac

/-- the first place of e or E, or -1 -/
def ixE (es : List Int) : Int := match es with | [] => -1 | a :: r => if a == 101 || a == 69 then 0 else if ixE r = -1 then -1 else ixE r + 1
theorem ixE_is : ∀ {es : List Int}, Byt es → Lib.indexAny (strOfNums es).data.toList [101, 69] = ixE es
  | [], _ => rfl
  | a :: r, h => by
    have ha := h a List.mem_cons_self
    have ih := ixE_is (es := r) (fun x hx => h x (List.mem_cons_of_mem _ hx))
    rw [strOfNums_data] at ih ⊢
    rw [List.map_cons, Lib.indexAny, ixE, ih]
    have e : ([101, 69] : List UInt8).contains (UInt8.ofNat a.toNat) = (a == 101 || a == 69) := by
      by_cases e1 : a = 101
      · subst e1; decide
      · by_cases e2 : a = 69
        · subst e2; decide
        · have n1 : UInt8.ofNat a.toNat ≠ 101 := fun h => e1 (by have h2 := congrArg UInt8.toNat h; rw [UInt8.toNat_ofNat'] at h2; have h3 : (101 : UInt8).toNat = 101 := rfl; omega)
          have n2 : UInt8.ofNat a.toNat ≠ 69 := fun h => e2 (by have h2 := congrArg UInt8.toNat h; rw [UInt8.toNat_ofNat'] at h2; have h3 : (69 : UInt8).toNat = 69 := rfl; omega)
          simp [n1, n2, e1, e2]
    rw [e]
    by_cases hz : ixE r = -1 <;> simp [hz]
theorem ixE_range : ∀ es : List Int, -1 ≤ ixE es ∧ ixE es < es.length
  | [] => by unfold ixE; simp
  | a :: r => by
    have ih := ixE_range r
    rw [ixE]
    split
    · simp
    · split
      · simp; omega
      · simp; omega
theorem any_E {w : World} {s : ByteArray} {es : List Int} (hb : ∀ x ∈ es, 0 ≤ x ∧ x < 128) (hs : s = strOfNums es) (hl : es.length < 4294967281) :
    Calls Tryz.prog 61 #[.string s, .string ⟨#[101, 69]⟩] w fun e w' => e = .returned (.int .i64 (ixE es)) ∧ Below w.heap.size w w' := by
  have h := fany s ⟨#[101, 69]⟩ w (by rw [hs, strOfNums_size]; exact hl) (by decide) (fun j b hj => by
    rw [hs, strOfNums_data] at hj
    have hm := List.mem_of_getElem? hj
    obtain ⟨x, hx, rfl⟩ := List.mem_map.1 hm
    have := hb x hx
    rw [UInt8.toNat_ofNat']
    omega) (fun j b hj => by
    have hm := List.mem_of_getElem? hj
    simp at hm
    rcases hm with rfl | rfl <;> decide)
  rw [hs, ixE_is (fun x hx => by have := hb x hx; omega), ← hs] at h
  exact h

end Go.Proofs.YtinfkoiifemjmaaGreatDoor

namespace Go.Proofs.YtinfkoiifemjmaaGreatDoor
open Go.RowKit
set_option linter.unusedVariables false

/-- the text is taken from the place p on -/
def acc : Nat → List Int → Bool
  | p, [] => fin8 p
  | p, c :: r => (nx p c != 9) && acc (nx p c) r
theorem acc_of : ∀ {es : List Int} {k p : Nat}, (scG es k p).2 = true → acc p es = true
  | [], k, p, h => h
  | c :: r, k, p, h => by
    rw [scG] at h
    split at h
    · simp at h
    · rename_i hn
      rw [acc, acc_of h]
      simp [hn]
theorem isD_iff {c : Int} : isD c = true ↔ 48 ≤ c ∧ c ≤ 57 := by
  unfold isD
  simp
theorem nx_ascii {p : Nat} {c : Int} (h : nx p c ≠ 9) : 43 ≤ c ∧ c ≤ 101 := by
  unfold nx at h
  by_cases hd : isD c = true
  · have := isD_iff.1 hd; omega
  · by_cases h1 : c = 45
    · omega
    · by_cases h2 : c = 46
      · omega
      · by_cases h3 : c = 101 ∨ c = 69
        · omega
        · by_cases h4 : c = 43
          · omega
          · exfalso
            apply h
            simp [hd, h1, h2, h3, h4]
theorem acc_ascii : ∀ {es : List Int} {p : Nat}, acc p es = true → ∀ x ∈ es, 0 ≤ x ∧ x < 128
  | [], p, h, x, hx => by simp at hx
  | c :: r, p, h, x, hx => by
    rw [acc] at h
    simp at h
    rcases List.mem_cons.1 hx with rfl | hx
    · have := nx_ascii h.1; omega
    · exact acc_ascii h.2 x hx
/-- behind the mark's sign or a digit of the power there are digits alone -/
theorem acc_78 : ∀ {es : List Int} {p : Nat}, 7 ≤ p → p ≤ 8 → acc p es = true → ∀ x ∈ es, 48 ≤ x ∧ x ≤ 57
  | [], p, _, _, h, x, hx => by simp at hx
  | c :: r, p, h7, h8, h, x, hx => by
    rw [acc] at h
    simp at h
    have hn : nx p c = if isD c then 8 else 9 := by
      unfold nx
      rw [if_neg (by omega), if_neg (by omega), if_neg (by omega), if_neg (by omega), if_neg (by omega)]
    by_cases hd : isD c = true
    · rw [if_pos hd] at hn
      rcases List.mem_cons.1 hx with rfl | hx
      · exact isD_iff.1 hd
      · rw [hn] at h
        exact acc_78 (by omega) (by omega) h.2 x hx
    · rw [if_neg hd] at hn
      exact absurd hn h.1
theorem cutB_dig {es : List Int} {c : Int} (hc : c < 48) (h : ∀ x ∈ es, 48 ≤ x ∧ x ≤ 57) : cutB es c = es := by
  unfold cutB
  cases es with
  | nil => rfl
  | cons a r =>
    have := h a List.mem_cons_self
    have e : headB (a :: r) c = false := beq_eq_false_iff_ne.2 (by omega)
    rw [e]; rfl
/-- a power's text -/
theorem acc_6 {es : List Int} (h : acc 6 es = true) : ∀ x ∈ cutB (cutB es 45) 43, 48 ≤ x ∧ x ≤ 57 := by
  cases es with
  | nil => simp [cutB, headB]
  | cons c r =>
    rw [acc] at h
    simp at h
    have hn : nx 6 c = if c = 43 ∨ c = 45 then 7 else if isD c then 8 else 9 := by
      unfold nx
      simp
    by_cases h1 : c = 45
    · subst h1
      rw [hn, if_pos (Or.inr rfl)] at h
      have hd := acc_78 (by omega) (by omega) h.2
      have e : cutB (45 :: r) 45 = r := by unfold cutB headB; simp
      rw [e, cutB_dig (by omega) hd]
      exact hd
    · have e : cutB (c :: r) 45 = c :: r := by unfold cutB headB; simp [h1]
      rw [e]
      by_cases h2 : c = 43
      · subst h2
        rw [hn, if_pos (Or.inl rfl)] at h
        have e2 : cutB (43 :: r) 43 = r := by unfold cutB headB; simp
        rw [e2]
        exact acc_78 (by omega) (by omega) h.2
      · have e2 : cutB (c :: r) 43 = c :: r := by unfold cutB headB; simp [h2]
        rw [e2]
        rw [hn, if_neg (by omega)] at h
        by_cases hd : isD c = true
        · rw [if_pos hd] at h
          intro x hx
          rcases List.mem_cons.1 hx with rfl | hx
          · exact isD_iff.1 hd
          · exact acc_78 (by omega) (by omega) h.2 x hx
        · rw [if_neg hd] at h
          exact absurd rfl h.1
theorem nx_5 {p : Nat} {c : Int} (hp : p ≤ 5) : nx p c ≤ 5 ∨ nx p c = 9 ∨ (nx p c = 6 ∧ (c = 101 ∨ c = 69)) := by
  unfold nx
  repeat' split
  all_goals omega
theorem nx_E {p : Nat} {c : Int} (hp : p ≤ 5) (he : c = 101 ∨ c = 69) : nx p c = 6 ∨ nx p c = 9 := by
  have hnd : isD c = false := by rcases he with rfl | rfl <;> decide
  unfold nx
  simp only [hnd, Bool.false_eq_true, if_false, and_false]
  repeat' split
  all_goals omega
/-- the power's text, found by its mark -/
theorem acc_mark : ∀ {es : List Int} {p : Nat}, p ≤ 5 → acc p es = true → ixE es ≠ -1 → acc 6 (es.drop ((ixE es).toNat + 1)) = true
  | [], p, _, _, h => by simp [ixE] at h
  | c :: r, p, hp, h, hm => by
    rw [acc] at h
    simp at h
    by_cases he : c = 101 ∨ c = 69
    · have e : ixE (c :: r) = 0 := by rw [ixE, if_pos (by rcases he with h | h <;> simp [h])]
      rw [e]
      have hn := nx_E hp he
      rcases hn with hn | hn
      · rw [hn] at h; exact h.2
      · exact absurd hn h.1
    · have hb : (c == 101 || c == 69) = false := by simp; omega
      have e : ixE (c :: r) = if ixE r = -1 then -1 else ixE r + 1 := by rw [ixE, hb]; rfl
      have hr : ixE r ≠ -1 := fun hz => hm (by rw [e, if_pos hz])
      rw [e, if_neg hr]
      have rng := ixE_range r
      have hn5 : nx p c ≤ 5 := by
        rcases nx_5 (c := c) hp with h5 | h5 | h5
        · exact h5
        · exact absurd h5 h.1
        · exact absurd h5.2 he
      have := acc_mark hn5 h.2 hr
      rw [show (ixE r + 1).toNat + 1 = ((ixE r).toNat + 1) + 1 by omega, List.drop_succ_cons]
      exact this

end Go.Proofs.YtinfkoiifemjmaaGreatDoor

namespace Go.Proofs.YtinfkoiifemjmaaGreatDoor
open Go.RowKit
set_option linter.unusedVariables false

/-- the text ahead of the power, its whole part and its fraction, its power (held at lim) -/
def voB (es : List Int) : List Int := if ixE (cutB es 45) = -1 then cutB es 45 else (cutB es 45).take (ixE (cutB es 45)).toNat
def voT (es : List Int) : List Int := (cutB es 45).drop ((ixE (cutB es 45)).toNat + 1)
def voP (lim : Int) (es : List Int) : Int := if ixE (cutB es 45) = -1 then 0 else if headB (voT es) 45 then -(pwF lim (cutB (cutB (voT es) 45) 43) 0) else pwF lim (cutB (cutB (voT es) 45) 43) 0
def voW (bs : List Int) : List Int := if ixB bs 46 = -1 then bs else bs.take (ixB bs 46).toNat
def voF (bs : List Int) : List Int := if ixB bs 46 = -1 then [] else bs.drop ((ixB bs 46).toNat + 1)
theorem pwF_le {lim : Int} (l0 : 0 ≤ lim) : ∀ (ds : List Int) (z : Int), (∀ x ∈ ds, 48 ≤ x ∧ x ≤ 57) → 0 ≤ z → z ≤ lim → 0 ≤ pwF lim ds z ∧ pwF lim ds z ≤ lim
  | [], z, _, h0, h1 => ⟨h0, h1⟩
  | c :: r, z, h, h0, h1 => by
    have hc := h c List.mem_cons_self
    rw [pwF]
    exact pwF_le l0 r _ (fun x hx => h x (List.mem_cons_of_mem _ hx)) (by omega) (by omega)
/-- strings.Cut at the point, in these words -/
theorem cut_pt {w : World} {s : ByteArray} {bs : List Int} (hb : Byt bs) (hs : s = strOfNums bs) (hl : bs.length ≤ 70368744177664) :
    Calls Tryz.prog 63 #[.string s, .string ⟨#[46]⟩] w fun e w' => (∃ d, e = .returned (.tuple #[.string (strOfNums (voW bs)), .string (strOfNums (voF bs)), .bool d])) ∧ Below w.heap.size w w' := by
  refine (cut1 (c := 46) (by omega) (by omega) hb hs hl).mono ?_
  rintro e w' ⟨rfl, h⟩
  refine ⟨⟨decide (ixB bs 46 ≠ -1), ?_⟩, h⟩
  unfold voW voF
  by_cases hz : ixB bs 46 = -1
  · rw [if_pos hz, if_pos hz, if_pos hz, if_pos hz, hs]; rfl
  · rw [if_neg hz, if_neg hz, if_neg hz, if_neg hz]
theorem voWF_len (bs : List Int) : (voW bs).length ≤ bs.length ∧ (voF bs).length ≤ bs.length := by
  unfold voW voF
  constructor <;> split <;> simp <;> omega
theorem voB_ok {es : List Int} (h : ∀ x ∈ es, 0 ≤ x ∧ x < 128) : (∀ x ∈ cutB es 45, 0 ≤ x ∧ x < 128) ∧ (∀ x ∈ voB es, 0 ≤ x ∧ x < 128) ∧ (∀ x ∈ voT es, 0 ≤ x ∧ x < 128) := by
  have h1 : ∀ x ∈ cutB es 45, 0 ≤ x ∧ x < 128 := fun x hx => by
    unfold cutB at hx
    split at hx
    · exact h x (List.mem_of_mem_drop hx)
    · exact h x hx
  refine ⟨h1, fun x hx => ?_, fun x hx => h1 x (List.mem_of_mem_drop hx)⟩
  unfold voB at hx
  split at hx
  · exact h1 x hx
  · exact h1 x (List.mem_of_mem_take hx)

set_option maxHeartbeats 8000000 in
set_option maxRecDepth 100000 in
theorem valueOf_none {w : World} {s : ByteArray} {es : List Int} (hb : ∀ x ∈ es, 0 ≤ x ∧ x < 128) (hs : s = strOfNums es) (hl : es.length ≤ 4294967000) (hm : ixE (cutB es 45) = -1) :
    Calls Tryz.prog 37 #[.string s] w fun e w' => e = .returned (.agg #[.bool (headB es 45), .string (strOfNums (voW (voB es) ++ voF (voB es))), .int .i64 ((voW (voB es)).length + voP (s.size + 400) es)]) ∧ Below w.heap.size w w' := by
  have hby : Byt es := fun x hx => by have := hb x hx; omega
  have hok := voB_ok hb
  have hcl := cutB_len es 45
  have hvb : voB es = cutB es 45 := by unfold voB; rw [if_pos hm]
  have hvp : voP (s.size + 400) es = 0 := by unfold voP; rw [if_pos hm]
  have H1 := hide (fun W : World => cutP (w := W) (c := 45) (by omega) (by omega) hby hs (by omega))
  have H2 := hide (fun W : World => any_E (w := W) (s := strOfNums (cutB es 45)) hok.1 rfl (by omega))
  have H3 := hide (fun W : World => cut_pt (w := W) (s := strOfNums (cutB es 45)) (fun x hx => by have := hok.1 x hx; omega) rfl (by omega))
  rw [hm] at H2
  rw [hvp, hvb]
  have hlen := voWF_len (cutB es 45)
  have hjoin := txt_join (voW (cutB es 45)) (voF (cutB es 45))
  obtain ⟨t0, ht0⟩ : ∃ t, strOfNums (cutB es 45) = t := ⟨_, rfl⟩
  obtain ⟨t1, ht1⟩ : ∃ t, strOfNums (voW (cutB es 45)) = t := ⟨_, rfl⟩
  obtain ⟨t2, ht2⟩ : ∃ t, strOfNums (voF (cutB es 45)) = t := ⟨_, rfl⟩
  obtain ⟨t3, ht3⟩ : ∃ t, strOfNums (voW (cutB es 45) ++ voF (cutB es 45)) = t := ⟨_, rfl⟩
  have z1 : t1.size = (voW (cutB es 45)).length := by rw [← ht1, strOfNums_size]
  have z2 : t2.size = (voF (cutB es 45)).length := by rw [← ht2, strOfNums_size]
  rw [ht0] at H1 H2 H3
  rw [ht1, ht2] at H3 hjoin
  rw [ht3] at hjoin ⊢
  obtain ⟨N, hN⟩ : ∃ N, (voW (cutB es 45)).length = N := ⟨_, rfl⟩
  obtain ⟨bl, hbl⟩ : ∃ bl, headB es 45 = bl := ⟨_, rfl⟩
  rw [hN] at z1 hlen ⊢
  rw [hbl] at H1 ⊢
  have k1 : ¬ 9223372036854775807 < t1.size + t2.size := by omega
  have K0 : Below w.heap.size w (w.alloc (.cells #[.bool false, .string ⟨#[]⟩, .int .i64 0] 23)) := (Below.refl _ _).alloc (Nat.le_refl _) _
  have C := cell3_new w (.bool false) (.string ⟨#[]⟩) (.int .i64 0) 23
  have F0 : ∀ i, (w.alloc (.cells #[.bool false, .string ⟨#[]⟩, .int .i64 0] 23)).frozen? ⟨w.heap.size, i, none⟩ = false := fun i => World.frozen?_alloc_at _ _ _ _ rfl
  have wz : IntKind.i64.wrap ((N : Int) + 0) = (N : Int) := by rw [IntKind.wrap_i64]; omega
  clear hb hs hby hok hm hvb hvp ht0 ht1 ht2 ht3 hN hbl z2 hcl
  go_enter Tryz.func37, Tryz.ntmps37
  go_wp2_with fail
  refine (H1.out _).mono ?_
  rintro e w1 ⟨rfl, rfl⟩
  go_wp2_with fail
  refine (H2.out _).mono ?_
  rintro e w2 ⟨rfl, b1⟩
  go_wp2_with fail
  refine (H3.out _).mono ?_
  rintro e w3 ⟨⟨d, rfl⟩, b2⟩
  have b12 := below_trans b1 b2
  have D := C.below b12
  have f0 := (b12.frozen (p := ⟨w.heap.size, 0, none⟩) (by simp)).trans (F0 0)
  have f1 := (b12.frozen (p := ⟨w.heap.size, 1, none⟩) (by simp)).trans (F0 1)
  have f2 := (b12.frozen (p := ⟨w.heap.size, 2, none⟩) (by simp)).trans (F0 2)
  have c0 := D.c0; have c1 := D.c1; have c2 := D.c2
  have K2 := below_trans K0 b12
  clear b1 b2 b12 D C F0 K0 H1 H2 H3
  go_wp2
  (try simp only [Exit.inBlock, Exit.then])
  refine bodyPost_ret (v := .agg #[.bool bl, .string t3, .int .i64 (N + 0)]) (by rw [results_cell1 rfl]; go_simp) rfl ?_
  exact ⟨rfl, ((K2.setCell (p := ⟨w.heap.size, 0, none⟩) (Nat.le_refl _) _).setCell (p := ⟨w.heap.size, 1, none⟩) (Nat.le_refl _) _).setCell (p := ⟨w.heap.size, 2, none⟩) (Nat.le_refl _) _⟩

set_option maxHeartbeats 8000000 in
set_option maxRecDepth 100000 in
theorem valueOf_some {w : World} {s : ByteArray} {es : List Int} (hb : ∀ x ∈ es, 0 ≤ x ∧ x < 128) (hs : s = strOfNums es) (hl : es.length ≤ 4294967000) (hm : ixE (cutB es 45) ≠ -1) (hpd : ∀ x ∈ cutB (cutB (voT es) 45) 43, 48 ≤ x ∧ x ≤ 57) :
    Calls Tryz.prog 37 #[.string s] w fun e w' => e = .returned (.agg #[.bool (headB es 45), .string (strOfNums (voW (voB es) ++ voF (voB es))), .int .i64 ((voW (voB es)).length + voP (s.size + 400) es)]) ∧ Below w.heap.size w w' := by
  have hby : Byt es := fun x hx => by have := hb x hx; omega
  have hok := voB_ok hb
  have hcl := cutB_len es 45
  have rng := ixE_range (cutB es 45)
  have hssz : s.size = es.length := by rw [hs, strOfNums_size]
  have H1 := hide (fun W : World => cutP (w := W) (c := 45) (by omega) (by omega) hby hs (by omega))
  have H2 := hide (fun W : World => any_E (w := W) (s := strOfNums (cutB es 45)) hok.1 rfl (by omega))
  have hvt : voT es = (cutB es 45).drop ((ixE (cutB es 45)).toNat + 1) := rfl
  have hvb : voB es = (cutB es 45).take (ixE (cutB es 45)).toNat := by unfold voB; rw [if_neg hm]
  have hbl1 : (voB es).length ≤ es.length := by rw [hvb, List.length_take]; omega
  have htl1 : (voT es).length ≤ es.length := by rw [hvt, List.length_drop]; omega
  have HP := hide (fun W : World => powerOf_any (w := W) (s := strOfNums (voT es)) (lim := s.size + 400) (fun x hx => by have := hok.2.2 x hx; omega) rfl (by omega) (by omega) (by omega) hpd)
  have hvp : voP (s.size + 400) es = if headB (voT es) 45 then -(pwF (s.size + 400) (cutB (cutB (voT es) 45) 43) 0) else pwF (s.size + 400) (cutB (cutB (voT es) 45) 43) 0 := by unfold voP; rw [if_neg hm]
  rw [← hvp] at HP
  have hpr : -(s.size + 400 : Int) ≤ voP (s.size + 400) es ∧ voP (s.size + 400) es ≤ (s.size + 400 : Int) := by
    have q := pwF_le (lim := s.size + 400) (by omega) _ 0 hpd (by omega) (by omega)
    rw [hvp]; split <;> omega
  have H3 := hide (fun W : World => cut_pt (w := W) (s := strOfNums (voB es)) (fun x hx => by have := hok.2.1 x hx; omega) rfl (by omega))
  have hlen := voWF_len (voB es)
  have hjoin := txt_join (voW (voB es)) (voF (voB es))
  obtain ⟨m, hme⟩ : ∃ m : Nat, ixE (cutB es 45) = (m : Int) := ⟨(ixE (cutB es 45)).toNat, by omega⟩
  have x1 : (strOfNums (cutB es 45)).extract 0 m = strOfNums (voB es) := by rw [hvb, txt_cut, List.drop_zero, hme]; simp
  have x2 : (strOfNums (cutB es 45)).extract (m + 1) (cutB es 45).length = strOfNums (voT es) := by rw [hvt, txt_cut, List.take_length, hme]; simp
  have zc : (strOfNums (cutB es 45)).size = (cutB es 45).length := strOfNums_size _
  rw [hme] at H2 rng
  obtain ⟨t0, ht0⟩ : ∃ t, strOfNums (cutB es 45) = t := ⟨_, rfl⟩
  obtain ⟨t1, ht1⟩ : ∃ t, strOfNums (voW (voB es)) = t := ⟨_, rfl⟩
  obtain ⟨t2, ht2⟩ : ∃ t, strOfNums (voF (voB es)) = t := ⟨_, rfl⟩
  obtain ⟨t3, ht3⟩ : ∃ t, strOfNums (voW (voB es) ++ voF (voB es)) = t := ⟨_, rfl⟩
  obtain ⟨t4, ht4⟩ : ∃ t, strOfNums (voB es) = t := ⟨_, rfl⟩
  obtain ⟨t5, ht5⟩ : ∃ t, strOfNums (voT es) = t := ⟨_, rfl⟩
  have z1 : t1.size = (voW (voB es)).length := by rw [← ht1, strOfNums_size]
  have z2 : t2.size = (voF (voB es)).length := by rw [← ht2, strOfNums_size]
  rw [ht0] at H1 H2 x1 x2 zc
  rw [ht4] at H3 x1
  rw [ht5] at HP x2
  rw [ht1, ht2] at H3 hjoin
  rw [ht3] at hjoin ⊢
  obtain ⟨N, hN⟩ : ∃ N, (voW (voB es)).length = N := ⟨_, rfl⟩
  obtain ⟨bl, hbl⟩ : ∃ bl, headB es 45 = bl := ⟨_, rfl⟩
  obtain ⟨V, hV⟩ : ∃ V, voP (s.size + 400) es = V := ⟨_, rfl⟩
  obtain ⟨Lc, hLc⟩ : ∃ Lc, (cutB es 45).length = Lc := ⟨_, rfl⟩
  rw [hLc] at x2 zc rng hcl
  rw [hV] at HP hpr ⊢
  rw [hN] at z1 hlen ⊢
  rw [hbl] at H1 ⊢
  have k1 : ¬ 9223372036854775807 < t1.size + t2.size := by omega
  have g0 : ¬ (m : Int) < 0 := by omega
  have g1 : (m : Int) ≤ (Lc : Int) := by omega
  have g2 : (m : Int) + 1 ≤ (Lc : Int) := by omega
  have g3 : (0 : Int) ≤ (m : Int) + 1 := by omega
  have g4 : IntKind.i64.wrap ((m : Int) + 1) = (m : Int) + 1 := by rw [IntKind.wrap_i64]; omega
  have g5 : IntKind.i64.wrap ((s.size : Int) + 400) = (s.size : Int) + 400 := by rw [IntKind.wrap_i64]; omega
  have wz : IntKind.i64.wrap ((N : Int) + V) = (N : Int) + V := by rw [IntKind.wrap_i64]; omega
  have K0 : Below w.heap.size w (w.alloc (.cells #[.bool false, .string ⟨#[]⟩, .int .i64 0] 23)) := (Below.refl _ _).alloc (Nat.le_refl _) _
  have C := cell3_new w (.bool false) (.string ⟨#[]⟩) (.int .i64 0) 23
  have F0 : ∀ i, (w.alloc (.cells #[.bool false, .string ⟨#[]⟩, .int .i64 0] 23)).frozen? ⟨w.heap.size, i, none⟩ = false := fun i => World.frozen?_alloc_at _ _ _ _ rfl
  clear hb hs hby hok hm hvb hvt hvp hpd ht0 ht1 ht2 ht3 ht4 ht5 hN hbl hV hLc hme z2 hcl hssz hbl1 htl1 rng hpr
  go_enter Tryz.func37, Tryz.ntmps37
  go_wp2_with fail
  refine (H1.out _).mono ?_
  rintro e w1 ⟨rfl, rfl⟩
  go_wp2_with fail
  refine (H2.out _).mono ?_
  rintro e w2 ⟨rfl, b1⟩
  go_wp2_with fail
  refine (HP.out _).mono ?_
  rintro e w3 ⟨rfl, b2⟩
  go_wp2_with fail
  refine (H3.out _).mono ?_
  rintro e w4 ⟨⟨d, rfl⟩, b3⟩
  have b12 := below_trans (below_trans b1 b2) b3
  have D := C.below b12
  have f0 := (b12.frozen (p := ⟨w.heap.size, 0, none⟩) (by simp)).trans (F0 0)
  have f1 := (b12.frozen (p := ⟨w.heap.size, 1, none⟩) (by simp)).trans (F0 1)
  have f2 := (b12.frozen (p := ⟨w.heap.size, 2, none⟩) (by simp)).trans (F0 2)
  have c0 := D.c0; have c1 := D.c1; have c2 := D.c2
  have K2 := below_trans K0 b12
  clear b1 b2 b3 b12 D C F0 K0 H1 H2 H3 HP
  go_wp2
  (try simp only [Exit.inBlock, Exit.then])
  refine bodyPost_ret (v := .agg #[.bool bl, .string t3, .int .i64 (N + V)]) (by rw [results_cell1 rfl]; go_simp) rfl ?_
  exact ⟨rfl, ((K2.setCell (p := ⟨w.heap.size, 0, none⟩) (Nat.le_refl _) _).setCell (p := ⟨w.heap.size, 1, none⟩) (Nat.le_refl _) _).setCell (p := ⟨w.heap.size, 2, none⟩) (Nat.le_refl _) _⟩

end Go.Proofs.YtinfkoiifemjmaaGreatDoor

namespace Go.Proofs.YtinfkoiifemjmaaGreatDoor
open Go.RowKit
set_option linter.unusedVariables false

/-- the text ahead of the mark -/
def bodyE (es : List Int) : List Int := if ixE es = -1 then es else es.take (ixE es).toNat
theorem bodyE_cons {c : Int} {r : List Int} (he : ¬ (c = 101 ∨ c = 69)) : bodyE (c :: r) = c :: bodyE r := by
  have hb : (c == 101 || c == 69) = false := by simp; omega
  have e : ixE (c :: r) = if ixE r = -1 then -1 else ixE r + 1 := by rw [ixE, hb]; rfl
  have rng := ixE_range r
  unfold bodyE
  rw [e]
  by_cases hr : ixE r = -1
  · rw [if_pos hr, if_pos rfl, if_pos hr]
  · rw [if_neg hr, if_neg (by omega), if_neg hr, show (ixE r + 1).toNat = (ixE r).toNat + 1 by omega, List.take_succ_cons]
theorem bodyE_mark {c : Int} {r : List Int} (he : c = 101 ∨ c = 69) : bodyE (c :: r) = [] := by
  have e : ixE (c :: r) = 0 := by rw [ixE, if_pos (by rcases he with h | h <;> simp [h])]
  unfold bodyE
  rw [e, if_neg (by omega)]
  rfl
theorem voW_cons (c : Int) (b : List Int) : voW (c :: b) = (if c = 46 then [] else c :: voW b) ∧ voF (c :: b) = (if c = 46 then b else voF b) := by
  have rng := ixB_range 46 b
  by_cases hc : c = 46
  · have e : ixB (c :: b) 46 = 0 := by rw [ixB]; simp [hc]
    have hW : voW (c :: b) = [] := by unfold voW; rw [e]; rfl
    have hF : voF (c :: b) = b := by unfold voF; rw [e]; rfl
    rw [hW, hF, if_pos hc, if_pos hc]
    exact ⟨rfl, rfl⟩
  · have e : ixB (c :: b) 46 = if ixB b 46 = -1 then -1 else ixB b 46 + 1 := by rw [ixB, beq_eq_false_iff_ne.2 hc]; rfl
    rw [if_neg hc, if_neg hc]
    by_cases hr : ixB b 46 = -1
    · rw [if_pos hr] at e
      have h1 : voW (c :: b) = c :: b := by unfold voW; rw [if_pos e]
      have h2 : voF (c :: b) = [] := by unfold voF; rw [if_pos e]
      have h3 : voW b = b := by unfold voW; rw [if_pos hr]
      have h4 : voF b = [] := by unfold voF; rw [if_pos hr]
      rw [h1, h2, h3, h4]
      exact ⟨rfl, rfl⟩
    · rw [if_neg hr] at e
      have ne : ¬ ixB (c :: b) 46 = -1 := by omega
      have h1 : voW (c :: b) = (c :: b).take (ixB (c :: b) 46).toNat := by unfold voW; rw [if_neg ne]
      have h2 : voF (c :: b) = (c :: b).drop ((ixB (c :: b) 46).toNat + 1) := by unfold voF; rw [if_neg ne]
      have h3 : voW b = b.take (ixB b 46).toNat := by unfold voW; rw [if_neg hr]
      have h4 : voF b = b.drop ((ixB b 46).toNat + 1) := by unfold voF; rw [if_neg hr]
      rw [h1, h2, h3, h4, e, show (ixB b 46 + 1).toNat = (ixB b 46).toNat + 1 by omega]
      exact ⟨by rw [List.take_succ_cons], by rw [List.drop_succ_cons]⟩
theorem nx_45 {p : Nat} {c : Int} (h4 : 4 ≤ p) (h5 : p ≤ 5) (he : ¬ (c = 101 ∨ c = 69)) (h9 : nx p c ≠ 9) : isD c = true ∧ nx p c = 4 := by
  unfold nx at h9 ⊢
  rw [if_neg (by omega), if_neg (by omega)] at h9 ⊢
  by_cases hp : p = 4
  · subst hp
    rw [if_pos (by omega), if_neg (by omega), if_neg (by omega), if_neg he] at h9 ⊢
    by_cases hd : isD c = true
    · rw [if_pos hd]; exact ⟨hd, rfl⟩
    · rw [if_neg hd] at h9; exact absurd rfl h9
  · rw [if_neg (by omega), if_pos (by omega)] at h9 ⊢
    by_cases hd : isD c = true
    · rw [if_pos hd]; exact ⟨hd, rfl⟩
    · rw [if_neg hd] at h9; exact absurd rfl h9
theorem acc_frac : ∀ {es : List Int} {p : Nat}, 4 ≤ p → p ≤ 5 → acc p es = true → ∀ x ∈ bodyE es, 48 ≤ x ∧ x ≤ 57
  | [], p, _, _, _, x, hx => by simp [bodyE, ixE] at hx
  | c :: r, p, h4, h5, h, x, hx => by
    rw [acc] at h
    simp at h
    by_cases he : c = 101 ∨ c = 69
    · rw [bodyE_mark he] at hx; simp at hx
    · rw [bodyE_cons he] at hx
      obtain ⟨hd, hn⟩ := nx_45 h4 h5 he h.1
      rcases List.mem_cons.1 hx with rfl | hx
      · exact isD_iff.1 hd
      · rw [hn] at h
        exact acc_frac (by omega) (by omega) h.2 x hx
theorem nx_13 {p : Nat} {c : Int} (h1 : 1 ≤ p) (h3 : p ≤ 3) (he : ¬ (c = 101 ∨ c = 69)) (h9 : nx p c ≠ 9) : (c = 46 ∧ nx p c = 5) ∨ (c ≠ 46 ∧ isD c = true ∧ 1 ≤ nx p c ∧ nx p c ≤ 3) := by
  by_cases hc : c = 46
  · have hd : isD c = false := by rw [hc]; decide
    unfold nx at h9 ⊢
    rw [if_neg (by omega)] at h9 ⊢
    by_cases hp : p ≤ 1
    · rw [if_pos hp, hd] at h9; exact absurd rfl h9
    · rw [if_neg hp, if_pos (by omega), if_neg (by rw [hd]; simp), if_pos ⟨by omega, hc⟩]
      exact Or.inl ⟨hc, rfl⟩
  · right
    refine ⟨hc, ?_⟩
    unfold nx at h9 ⊢
    by_cases hd : isD c = true
    · refine ⟨hd, ?_⟩
      rw [if_neg (by omega)] at h9 ⊢
      by_cases hp : p ≤ 1
      · rw [if_pos hp, if_pos hd]; split <;> omega
      · rw [if_neg hp, if_pos (by omega)] at h9 ⊢
        by_cases h2 : p = 2
        · rw [if_pos ⟨h2, hd⟩] at h9; exact absurd rfl h9
        · rw [if_neg (by omega), if_neg (by omega), if_neg he, if_pos hd]; omega
    · exfalso
      apply h9
      rw [if_neg (by omega)]
      by_cases hp : p ≤ 1
      · rw [if_pos hp, if_neg hd]
      · rw [if_neg hp, if_pos (by omega), if_neg (by intro h; exact hd h.2), if_neg (by omega), if_neg he, if_neg hd]
theorem acc_parts : ∀ {es : List Int} {p : Nat}, 1 ≤ p → p ≤ 3 → acc p es = true → (∀ x ∈ voW (bodyE es), 48 ≤ x ∧ x ≤ 57) ∧ (∀ x ∈ voF (bodyE es), 48 ≤ x ∧ x ≤ 57)
  | [], p, _, _, _ => by constructor <;> intro x hx <;> simp [bodyE, ixE, voW, voF, ixB] at hx
  | c :: r, p, h1, h3, h => by
    rw [acc] at h
    simp at h
    by_cases he : c = 101 ∨ c = 69
    · rw [bodyE_mark he]
      constructor <;> intro x hx <;> simp [voW, voF, ixB] at hx
    · rw [bodyE_cons he, (voW_cons c _).1, (voW_cons c _).2]
      rcases nx_13 h1 h3 he h.1 with ⟨hc, hn⟩ | ⟨hc, hd, n1, n3⟩
      · rw [if_pos hc, if_pos hc]
        rw [hn] at h
        exact ⟨fun x hx => by simp at hx, acc_frac (by omega) (by omega) h.2⟩
      · rw [if_neg hc, if_neg hc]
        obtain ⟨ih1, ih2⟩ := acc_parts n1 n3 h.2
        refine ⟨fun x hx => ?_, ih2⟩
        rcases List.mem_cons.1 hx with rfl | hx
        · exact isD_iff.1 hd
        · exact ih1 x hx
/-- behind a sign -/
theorem acc_sign {es : List Int} (h : acc 0 es = true) : acc 1 (cutB es 45) = true := by
  cases es with
  | nil => simp [acc, fin8] at h
  | cons c r =>
    rw [acc] at h
    simp at h
    by_cases hc : c = 45
    · subst hc
      have e : cutB (45 :: r) 45 = r := by unfold cutB headB; simp
      rw [e]
      have hn : nx 0 45 = 1 := by decide
      rw [hn] at h
      exact h.2
    · have e : cutB (c :: r) 45 = c :: r := by unfold cutB headB; simp [hc]
      have a1 : nx 1 c = (if isD c then (if c = 48 then 2 else 3) else 9) := by
        unfold nx
        rw [if_neg (by omega), if_pos (by omega)]
      have a0 : nx 0 c = (if isD c then (if c = 48 then 2 else 3) else 9) := by
        unfold nx
        rw [if_neg (by omega), if_pos (by omega)]
      have hn : nx 1 c = nx 0 c := by rw [a1, a0]
      rw [e, acc, hn, h.2]
      simp [h.1]
/-- what valueOf asks, and what it tells, of a number -/
theorem scan_value {es : List Int} (h : (scG es 0 0).2 = true) : (∀ x ∈ es, 0 ≤ x ∧ x < 128) ∧ (ixE (cutB es 45) ≠ -1 → ∀ x ∈ cutB (cutB (voT es) 45) 43, 48 ≤ x ∧ x ≤ 57) ∧ Dgt (voW (voB es) ++ voF (voB es)) := by
  have ha := acc_of h
  have h1 := acc_sign ha
  refine ⟨acc_ascii ha, fun hm => acc_6 (acc_mark (by omega) h1 hm), ?_⟩
  have hp := acc_parts (by omega) (by omega) h1
  have e : voB es = bodyE (cutB es 45) := rfl
  rw [e]
  intro x hx
  rcases List.mem_append.1 hx with hx | hx
  · exact hp.1 x hx
  · exact hp.2 x hx

end Go.Proofs.YtinfkoiifemjmaaGreatDoor
