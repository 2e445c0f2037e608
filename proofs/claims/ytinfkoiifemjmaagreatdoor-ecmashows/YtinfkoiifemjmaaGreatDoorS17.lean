/- EVal, ECut, EPw, ECt -/
import Derived.Test.YtinfkoiifemjmaaGreatDoorS03
import Derived.Test.YtinfkoiifemjmaaGreatDoorS10
import Derived.Deep.LoopGhost
import Derived.Deep.Cut
import Derived.Deep.RegionHeld3
import Derived.Lib.Bytealg
import Derived.Laws.RangeString
import Derived.Test.YtinfkoiifemjmaaGreatDoorS06
namespace Go.Proofs.YtinfkoiifemjmaaGreatDoor
open Go.RowKit
set_option linter.unusedVariables false

theorem results_cell1 {fn : Func} {p : Tmp} {ty : TypeId} (h : fn.results = #[.cell p ty]) (tmps : Array Value) (P : Program) (w : World) :
    (results fn tmps).run P w = ((asAddr (tmps.getD p undef)).run P w).andThen fun a w₁ => (loadVar ty a).run P w₁ := by
  simp only [results, h]
  simp [Sem.run_bind, Result.andThen]
set_option maxHeartbeats 1000000 in
set_option maxRecDepth 100000 in
theorem eIb0 {w : World} {s : ByteArray} {c : Int} : Calls Tryz.prog 173 #[.string s, .int .u8 c] w fun e w' => e = .returned (.int .i64 (Lib.indexByte s.data.toList c.toNat.toUInt8)) ∧ w' = w := by
  go_enter Tryz.func173, Tryz.ntmps173
  go_wp2
  rw [run_callFunc_extern Tryz.func186 (by kernel_rfl) (by kernel_rfl) (by kernel_rfl) (e := Extern.BytealgIndexByte.indexByte) (by kernel_rfl), Lib.run_indexByteString]
  simp only [Result.andThen]
  rw [Oper.upon_value]
  go_wp2
  go_ret
  exact ⟨rfl, rfl⟩
theorem eIb0t {w : World} {s : ByteArray} {c r : Int} (h : Lib.indexByte s.data.toList c.toNat.toUInt8 = r) : Calls Tryz.prog 173 #[.string s, .int .u8 c] w fun e w' => e = .returned (.int .i64 r) ∧ w' = w := by
  subst h
  exact eIb0
end Go.Proofs.YtinfkoiifemjmaaGreatDoor

namespace Go.Proofs.YtinfkoiifemjmaaGreatDoor
open Go.RowKit
set_option linter.unusedVariables false

/-- begins it with the byte c? -/
def headB (es : List Int) (c : Int) : Bool := match es with | [] => false | a :: _ => a == c
theorem one_str {s : ByteArray} {es : List Int} {a : Int} {r : List Int} (hs : s = strOfNums es) (he : es = a :: r) : s.extract 0 1 = strOfNums [a] := by
  rw [hs, he, txt_cut]; rfl
set_option maxHeartbeats 4000000 in
set_option maxRecDepth 100000 in
theorem hasP {w : World} {s : ByteArray} {es : List Int} {c : Int} (c0 : 0 ≤ c) (c1 : c < 256) (hb : Byt es) (hs : s = strOfNums es) (hl : es.length ≤ 9223372036854775807) :
    Calls Tryz.prog 133 #[.string s, .string (strOfNums [c])] w fun e w' => e = .returned (.bool (headB es c)) ∧ w' = w := by
  have hsz : s.size = es.length := by rw [hs, strOfNums_size]
  have hpz : (strOfNums [c]).size = 1 := by rw [strOfNums_size]; rfl
  cases es with
  | nil =>
    have f1 : s.size = 0 := by rw [hsz]; rfl
    generalize strOfNums [c] = p at *
    clear hs hb hsz
    go_enter Tryz.func133, Tryz.ntmps133
    go_wp2
    go_ret
    exact ⟨rfl, rfl⟩
  | cons a r =>
    have ha := hb a List.mem_cons_self
    have x1 := one_str hs rfl
    have f1 : ¬ (s.size : Int) < 1 := by rw [hsz]; simp; omega
    have f2 : (1 : Int) ≤ (s.size : Int) := by rw [hsz]; simp; omega
    have hq : ((strOfNums [a]).toList == (strOfNums [c]).toList) = (a == c) := by
      rw [ByteArray.toList_eq, ByteArray.toList_eq, strOfNums_data, strOfNums_data]
      by_cases e : a = c
      · subst e; simp
      · rw [beq_eq_false_iff_ne.2 e]
        refine beq_eq_false_iff_ne.2 (fun h => e ?_)
        simp at h
        have h2 := congrArg UInt8.toNat h
        rw [UInt8.toNat_ofNat', UInt8.toNat_ofNat'] at h2
        omega
    obtain ⟨q, hqq⟩ : ∃ q, strOfNums [a] = q := ⟨_, rfl⟩
    obtain ⟨p, hpp⟩ : ∃ p, strOfNums [c] = p := ⟨_, rfl⟩
    rw [hqq] at x1 hq
    rw [hpp] at hq hpz ⊢
    have HQ := hide (show headB (a :: r) c = (a == c) from rfl)
    obtain ⟨t, ht⟩ : ∃ t, (a == c) = t := ⟨_, rfl⟩
    rw [ht] at hq HQ
    rw [HQ.out]
    clear hs hb hsz hl ha hqq hpp ht HQ
    cases t with
    | true =>
      go_enter Tryz.func133, Tryz.ntmps133
      go_wp2
      go_ret
      exact ⟨rfl, rfl⟩
    | false =>
      go_enter Tryz.func133, Tryz.ntmps133
      go_wp2
      go_ret
      exact ⟨rfl, rfl⟩

/-- what is left behind the byte, if it begins with it -/
def cutB (es : List Int) (c : Int) : List Int := if headB es c then es.drop 1 else es
theorem cut_str {s : ByteArray} {es : List Int} (hs : s = strOfNums es) : s.extract 1 s.size = strOfNums (es.drop 1) := by
  rw [hs, strOfNums_size, txt_cut, List.take_length]
set_option maxHeartbeats 4000000 in
set_option maxRecDepth 100000 in
theorem cutP0 {w : World} {s : ByteArray} {es : List Int} {c : Int} (c0 : 0 ≤ c) (c1 : c < 256) (hb : Byt es) (hs : s = strOfNums es) (hl : es.length ≤ 9223372036854775807) :
    Calls Tryz.prog 95 #[.string s, .string (strOfNums [c])] w fun e w' => e = .returned (.tuple #[.string (strOfNums (cutB es c)), .bool (headB es c)]) ∧ w' = w := by
  have H := hide (hasP (w := w) c0 c1 hb hs hl)
  have hpz : (strOfNums [c]).size = 1 := by rw [strOfNums_size]; rfl
  have x1 := cut_str hs
  unfold cutB
  have hone : headB es c = true → (1 : Int) ≤ (s.size : Int) := fun h => by
    cases es with
    | nil => simp [headB] at h
    | cons a r => rw [hs, strOfNums_size]; simp; omega
  obtain ⟨p, hpp⟩ : ∃ p, strOfNums [c] = p := ⟨_, rfl⟩
  obtain ⟨t, ht⟩ : ∃ t, strOfNums (es.drop 1) = t := ⟨_, rfl⟩
  rw [hpp] at H hpz ⊢
  rw [ht] at x1
  cases hh : headB es c with
  | true =>
    have f1 := hone hh
    rw [hh] at H
    rw [if_pos rfl, ht]
    clear hs hb hl hpp ht hh hone
    go_enter Tryz.func95, Tryz.ntmps95
    go_wp2_with fail
    refine H.out.mono ?_
    rintro e w1 ⟨rfl, rfl⟩
    go_wp2
    go_ret2
    exact ⟨rfl, rfl⟩
  | false =>
    rw [hh] at H
    rw [if_neg (by decide), ← hs]
    clear hs hb hl hpp ht hh hone
    go_enter Tryz.func95, Tryz.ntmps95
    go_wp2_with fail
    refine H.out.mono ?_
    rintro e w1 ⟨rfl, rfl⟩
    go_wp2
    go_ret2
    exact ⟨rfl, rfl⟩
theorem cutP {w : World} {s : ByteArray} {es : List Int} {c : Int} (c0 : 0 ≤ c) (c1 : c < 256) (hb : Byt es) (hs : s = strOfNums es) (hl : es.length ≤ 9223372036854775807) :
    Calls Tryz.prog 60 #[.string s, .string (strOfNums [c])] w fun e w' => e = .returned (.tuple #[.string (strOfNums (cutB es c)), .bool (headB es c)]) ∧ w' = w := by
  have H := hide (cutP0 (w := w) c0 c1 hb hs hl)
  clear hs hb hl
  go_enter Tryz.func60, Tryz.ntmps60
  go_wp2_with fail
  refine H.out.mono ?_
  rintro e w1 ⟨rfl, rfl⟩
  go_wp2
  go_ret2
  exact ⟨rfl, rfl⟩
set_option maxHeartbeats 4000000 in
set_option maxRecDepth 100000 in
theorem trimP0 {w : World} {s : ByteArray} {es : List Int} {c : Int} (c0 : 0 ≤ c) (c1 : c < 256) (hb : Byt es) (hs : s = strOfNums es) (hl : es.length ≤ 9223372036854775807) :
    Calls Tryz.prog 138 #[.string s, .string (strOfNums [c])] w fun e w' => e = .returned (.string (strOfNums (cutB es c))) ∧ w' = w := by
  have H := hide (hasP (w := w) c0 c1 hb hs hl)
  have hpz : (strOfNums [c]).size = 1 := by rw [strOfNums_size]; rfl
  have x1 := cut_str hs
  unfold cutB
  have hone : headB es c = true → (1 : Int) ≤ (s.size : Int) := fun h => by
    cases es with
    | nil => simp [headB] at h
    | cons a r => rw [hs, strOfNums_size]; simp; omega
  obtain ⟨p, hpp⟩ : ∃ p, strOfNums [c] = p := ⟨_, rfl⟩
  obtain ⟨t, ht⟩ : ∃ t, strOfNums (es.drop 1) = t := ⟨_, rfl⟩
  rw [hpp] at H hpz ⊢
  rw [ht] at x1
  cases hh : headB es c with
  | true =>
    have f1 := hone hh
    rw [hh] at H
    rw [if_pos rfl, ht]
    clear hs hb hl hpp ht hh hone
    go_enter Tryz.func138, Tryz.ntmps138
    go_wp2_with fail
    refine H.out.mono ?_
    rintro e w1 ⟨rfl, rfl⟩
    go_wp2
    go_ret
    exact ⟨rfl, rfl⟩
  | false =>
    rw [hh] at H
    rw [if_neg (by decide), ← hs]
    clear hs hb hl hpp ht hh hone
    go_enter Tryz.func138, Tryz.ntmps138
    go_wp2_with fail
    refine H.out.mono ?_
    rintro e w1 ⟨rfl, rfl⟩
    go_wp2
    go_ret
    exact ⟨rfl, rfl⟩
theorem trimP {w : World} {s : ByteArray} {es : List Int} {c : Int} (c0 : 0 ≤ c) (c1 : c < 256) (hb : Byt es) (hs : s = strOfNums es) (hl : es.length ≤ 9223372036854775807) :
    Calls Tryz.prog 100 #[.string s, .string (strOfNums [c])] w fun e w' => e = .returned (.string (strOfNums (cutB es c))) ∧ w' = w := by
  have H := hide (trimP0 (w := w) c0 c1 hb hs hl)
  clear hs hb hl
  go_enter Tryz.func100, Tryz.ntmps100
  go_wp2_with fail
  refine H.out.mono ?_
  rintro e w1 ⟨rfl, rfl⟩
  go_wp2
  go_ret
  exact ⟨rfl, rfl⟩

/-- a power's size, held at a limit -/
def pwF (lim : Int) : List Int → Int → Int
  | [], z => z
  | c :: r, z => pwF lim r (min (10 * z + (c - 48)) lim)
theorem pwF_drop {lim z : Int} {es : List Int} {k : Nat} (h : k < es.length) : pwF lim (es.drop k) z = pwF lim (es.drop (k + 1)) (min (10 * z + (Nt.lb es k - 48)) lim) := by
  rw [List.drop_eq_getElem_cons h, pwF]
  simp [Nt.lb, h]

end Go.Proofs.YtinfkoiifemjmaaGreatDoor

namespace Go.Proofs.YtinfkoiifemjmaaGreatDoor
open Go.RowKit
set_option linter.unusedVariables false

theorem cutB_byt {es : List Int} {c : Int} (h : Byt es) : Byt (cutB es c) := by
  unfold cutB
  split
  · exact fun x hx => h x (List.mem_of_mem_drop hx)
  · exact h
theorem cutB_len (es : List Int) (c : Int) : (cutB es c).length ≤ es.length := by
  unfold cutB
  split
  · rw [List.length_drop]; omega
  · exact Nat.le_refl _
set_option maxHeartbeats 8000000 in
set_option maxRecDepth 100000 in
theorem powerOf_any {w : World} {s : ByteArray} {es : List Int} {lim : Int} (hb : Byt es) (hs : s = strOfNums es) (hl : es.length ≤ 70368744177664) (l0 : 0 ≤ lim) (l1 : lim ≤ 900000000000000000) (hd : ∀ x ∈ cutB (cutB es 45) 43, 48 ≤ x ∧ x ≤ 57) :
    Calls Tryz.prog 62 #[.string s, .int .i64 lim] w fun e w' => e = .returned (.int .i64 (if headB es 45 then -(pwF lim (cutB (cutB es 45) 43) 0) else pwF lim (cutB (cutB es 45) 43) 0)) ∧ Below w.heap.size w w' := by
  have H1 := hide (fun W : World => cutP (w := W) (c := 45) (by omega) (by omega) hb hs (by omega))
  have hb2 := cutB_byt (c := 45) hb
  have hl2 := cutB_len es 45
  have H2 := hide (fun W : World => trimP (w := W) (s := strOfNums (cutB es 45)) (c := 43) (by omega) (by omega) hb2 rfl (by omega))
  have hl3 := cutB_len (cutB es 45) 43
  have hb3 := cutB_byt (c := 43) hb2
  obtain ⟨t1, ht1⟩ : ∃ t, strOfNums (cutB es 45) = t := ⟨_, rfl⟩
  obtain ⟨ds, hds⟩ : ∃ ds, cutB (cutB es 45) 43 = ds := ⟨_, rfl⟩
  obtain ⟨bl, hbl⟩ : ∃ bl, headB es 45 = bl := ⟨_, rfl⟩
  rw [hds] at hd hl3 hb3 H2 ⊢
  rw [ht1] at H1 H2
  rw [hbl] at H1 ⊢
  obtain ⟨t, ht⟩ : ∃ t, strOfNums ds = t := ⟨_, rfl⟩
  rw [ht] at H2
  have hsz : t.size = ds.length := by rw [← ht, strOfNums_size]
  have Hix := hide (show ∀ p (h : p < t.size), (((t[p]'h).toNat : Nat) : Int) = Nt.lb ds p from fun p h => by subst ht; exact txt_at h hb3)
  have HD := hide (show ∀ p, p < ds.length → 48 ≤ Nt.lb ds p ∧ Nt.lb ds p ≤ 57 from fun p h => hd _ (lb_in h))
  obtain ⟨L, hL⟩ : ∃ L, ds.length = L := ⟨_, rfl⟩
  obtain ⟨R, hR⟩ : ∃ R, pwF lim ds 0 = R := ⟨_, rfl⟩
  have HR0 := hide (show R = pwF lim (ds.drop 0) 0 by rw [← hR]; rfl)
  rw [hR]
  rw [hL] at hsz hl3
  have HL := hide hL
  clear hb hs hd hb2 hb3 ht1 hds hbl ht hL hR
  go_enter Tryz.func62, Tryz.ntmps62
  go_wp2_with fail
  refine (H1.out _).mono ?_
  rintro e w1 ⟨rfl, rfl⟩
  go_wp2_with fail
  refine (H2.out _).mono ?_
  rintro e w2 ⟨rfl, rfl⟩
  clear H1 H2
  have HK := hide (show ∀ k, Below w2.heap.size w2 (w2.iter t k) from fun k => (Below.refl _ _).alloc (Nat.le_refl _) _)
  go_wp2
  go_loopg [7] L (fun c z wr => ∃ (k : Nat) (zz : Int), k ≤ L ∧ c = L - k ∧ z = .int .i64 zz ∧ 0 ≤ zz ∧ zz ≤ lim ∧ Hid (R = pwF lim (ds.drop k) zz) ∧ w2.iter t k = wr)
  case atStart => exact ⟨0, 0, by omega, rfl, rfl, by omega, l0, HR0, rfl⟩
  case round =>
    obtain ⟨k, zz, hk, hgk, rfl, z0, z1, HR, hw⟩ := hrel
    subst hw
    by_cases hkl : k < L
    · have hps : k < t.size := by omega
      have hx := Hix.out k hps
      have hkd : k < ds.length := by rw [HL.out]; exact hkl
      have hdd := HD.out k hkd
      have hpw := pwF_drop (lim := lim) (z := zz) hkd
      obtain ⟨c, hc⟩ : ∃ c, Nt.lb ds k = c := ⟨_, rfl⟩
      rw [hc] at hx hdd hpw
      obtain ⟨c0, c1⟩ := hdd
      have hnx : ∀ ty, (Instr.next (.pointer (some ⟨w2.heap.size, 0, none⟩)) true ty).run Tryz.prog (w2.iter t k) = .ok (.tuple #[.bool true, .int .i64 k, .int .i32 c]) (w2.iter t (k + 1)) := fun ty => by
        rw [run_next_ascii w2 t k ty hps (by omega), hx]
      have w1' : IntKind.i64.wrap (10 * zz) = 10 * zz := by rw [IntKind.wrap_i64]; omega
      have w2' : IntKind.i32.wrap (c - 48) = c - 48 := by rw [IntKind.wrap_i32]; omega
      have w4' : IntKind.i64.wrap (c - 48) = c - 48 := by rw [IntKind.wrap_i64]; omega
      have w3' : IntKind.i64.wrap (10 * zz + (c - 48)) = 10 * zz + (c - 48) := by rw [IntKind.wrap_i64]; omega
      by_cases hm : 10 * zz + (c - 48) ≤ lim
      · have HN := hide (show R = pwF lim (ds.drop (k + 1)) (10 * zz + (c - 48)) by rw [HR.out, hpw, Int.min_eq_left hm])
        have m1 : ¬ lim < 10 * zz + (c - 48) := by omega
        clear hx hc hpw hkd
        go_wp2
        go_roundg (L - (k + 1))
        case measure => omega
        case rel => exact ⟨k + 1, _, by omega, rfl, by first | rfl | (simp; done) | (simp; omega), by omega, by omega, HN, rfl⟩
      · have HN := hide (show R = pwF lim (ds.drop (k + 1)) lim by rw [HR.out, hpw, Int.min_eq_right (by omega)])
        have m1 : lim < 10 * zz + (c - 48) := by omega
        clear hx hc hpw hkd
        go_wp2
        go_roundg (L - (k + 1))
        case measure => omega
        case rel => exact ⟨k + 1, lim, by omega, rfl, by first | rfl | (simp; done) | (simp; omega), by omega, by omega, HN, rfl⟩
    · have hke : k = L := by omega
      subst hke
      have hnx : ∀ ty, (Instr.next (.pointer (some ⟨w2.heap.size, 0, none⟩)) true ty).run Tryz.prog (w2.iter t k) = .ok (.tuple #[.bool false]) (w2.iter t k) := fun ty => run_next_end w2 t k ty (by omega)
      have HE := hide (show R = zz by rw [HR.out, List.drop_of_length_le (by rw [HL.out]; exact Nat.le_refl _), pwF])
      have wn : IntKind.i64.wrap (-zz) = -zz := by rw [IntKind.wrap_i64]; omega
      cases bl with
      | true =>
        go_wp2
        go_ret
        exact ⟨by rw [HE.out]; rfl, HK.out k⟩
      | false =>
        go_wp2
        go_ret
        exact ⟨by rw [HE.out]; rfl, HK.out k⟩

end Go.Proofs.YtinfkoiifemjmaaGreatDoor

namespace Go.Proofs.YtinfkoiifemjmaaGreatDoor
open Go.RowKit
set_option linter.unusedVariables false

/-- the first place of a byte, or -1 -/
def ixB (es : List Int) (c : Int) : Int := match es with | [] => -1 | a :: r => if a == c then 0 else if ixB r c = -1 then -1 else ixB r c + 1
theorem ixB_is {c : Int} (c0 : 0 ≤ c) (c1 : c < 256) : ∀ {es : List Int}, Byt es → Lib.indexByte (strOfNums es).data.toList c.toNat.toUInt8 = ixB es c
  | [], _ => rfl
  | a :: r, h => by
    have ha := h a List.mem_cons_self
    have ih := ixB_is c0 c1 (es := r) (fun x hx => h x (List.mem_cons_of_mem _ hx))
    rw [strOfNums_data] at ih ⊢
    rw [List.map_cons, Lib.indexByte, ixB, ih]
    have e : (UInt8.ofNat a.toNat == c.toNat.toUInt8) = (a == c) := by
      by_cases e : a = c
      · subst e; simp
      · rw [beq_eq_false_iff_ne.2 e]
        refine beq_eq_false_iff_ne.2 (fun h => e ?_)
        have h2 := congrArg UInt8.toNat h
        simp at h2
        omega
    rw [e]
    by_cases hz : ixB r c = -1 <;> simp [hz]
theorem ixB_range (c : Int) : ∀ es : List Int, -1 ≤ ixB es c ∧ ixB es c < es.length
  | [] => by unfold ixB; simp
  | a :: r => by
    have ih := ixB_range c r
    rw [ixB]
    split
    · simp
    · split
      · simp; omega
      · simp; omega
set_option maxHeartbeats 1000000 in
set_option maxRecDepth 100000 in
theorem index1 {w : World} {s : ByteArray} {es : List Int} {c : Int} (c0 : 0 ≤ c) (c1 : c < 256) (hb : Byt es) (hs : s = strOfNums es) (hne : s ≠ strOfNums [c] ∨ True) :
    Calls Tryz.prog 139 #[.string s, .string (strOfNums [c])] w fun e w' => e = .returned (.int .i64 (ixB es c)) ∧ w' = w := by
  have hix := ixB_is c0 c1 hb
  rw [← hs] at hix
  have H := hide (fun W : World => eIb0t (w := W) (s := s) (c := c) hix)
  have hpz : (strOfNums [c]).size = 1 := by rw [strOfNums_size]; rfl
  have hp0 : 0 < (strOfNums [c]).size := by omega
  have hi0 : ((((strOfNums [c])[0]'hp0).toNat : Nat) : Int) = c := by rw [txt_at hp0 (fun x hx => by simp at hx; omega)]; rfl
  have heq : ((strOfNums [c]).toList == s.toList) = true → ixB es c = 0 := fun h => by
    have h1 : (strOfNums [c]).toList = s.toList := by simpa using h
    have h2 : strOfNums [c] = s := Go.WideShapes.bytes_inj (by rw [ByteArray.toList_eq, ByteArray.toList_eq] at h1; exact h1)
    have h3 : es.length = 1 := by rw [← strOfNums_size, ← hs, ← h2]; rfl
    cases es with
    | nil => simp at h3
    | cons a r =>
      have hr : r = [] := by simpa using h3
      subst hr
      have ha := hb a List.mem_cons_self
      have h4 := congrArg (fun b : ByteArray => b.data.toList) (h2.trans hs)
      simp only [strOfNums_data] at h4
      simp at h4
      have h5 := congrArg UInt8.toNat h4
      rw [UInt8.toNat_ofNat', UInt8.toNat_ofNat'] at h5
      have : a = c := by omega
      rw [ixB]; simp [this]
  have HIX := hide heq
  obtain ⟨R, hR⟩ : ∃ R, ixB es c = R := ⟨_, rfl⟩
  rw [hR] at H HIX ⊢
  generalize strOfNums [c] = p at *
  cases ht : (p.toList == s.toList) with
  | true =>
    have hr0 := hide (HIX.out ht)
    clear hix heq hs hb HIX H hR
    go_enter Tryz.func139, Tryz.ntmps139
    go_wp2
    go_ret
    exact ⟨by rw [hr0.out]; rfl, rfl⟩
  | false =>
    clear hix heq hs hb HIX hR
    go_enter Tryz.func139, Tryz.ntmps139
    go_wp2_with fail
    refine (H.out _).mono ?_
    rintro e w1 ⟨rfl, rfl⟩
    go_wp2
    go_ret
    exact ⟨rfl, rfl⟩
set_option maxHeartbeats 1000000 in
set_option maxRecDepth 100000 in
theorem cut1_0 {w : World} {s : ByteArray} {es : List Int} {c : Int} (c0 : 0 ≤ c) (c1 : c < 256) (hb : Byt es) (hs : s = strOfNums es) (hl : es.length ≤ 70368744177664) :
    Calls Tryz.prog 101 #[.string s, .string (strOfNums [c])] w fun e w' => e = .returned (.tuple #[.string (if ixB es c = -1 then s else strOfNums (es.take (ixB es c).toNat)), .string (if ixB es c = -1 then ⟨#[]⟩ else strOfNums (es.drop ((ixB es c).toNat + 1))), .bool (decide (ixB es c ≠ -1))]) ∧ Below w.heap.size w w' := by
  have H := hide (index1 (w := w) c0 c1 hb hs (Or.inr trivial))
  have hpz : (strOfNums [c]).size = 1 := by rw [strOfNums_size]; rfl
  have rng := ixB_range c es
  have hsz : s.size = es.length := by rw [hs, strOfNums_size]
  obtain ⟨R, hR⟩ : ∃ R, ixB es c = R := ⟨_, rfl⟩
  rw [hR] at H rng ⊢
  obtain ⟨p, hpp⟩ : ∃ p, strOfNums [c] = p := ⟨_, rfl⟩
  rw [hpp] at H hpz ⊢
  by_cases hr : R = -1
  · rw [if_pos hr, if_pos hr, show decide (R ≠ -1) = false by simp [hr]]
    rw [hr] at H
    clear hs hb hpp rng hR
    go_enter Tryz.func101, Tryz.ntmps101
    go_wp2_with fail
    refine H.out.mono ?_
    rintro e w1 ⟨rfl, rfl⟩
    go_wp2
    go_ret3
    exact ⟨rfl, Below.refl _ _⟩
  · rw [if_neg hr, if_neg hr, show decide (R ≠ -1) = true by simp [hr]]
    obtain ⟨m, rfl⟩ : ∃ m : Nat, R = (m : Int) := ⟨R.toNat, by omega⟩
    rw [show ((m : Nat) : Int).toNat = m by simp]
    have x1 : s.extract 0 m = strOfNums (es.take m) := by rw [hs, txt_cut, List.drop_zero]
    have x2 : s.extract (m + 1) es.length = strOfNums (es.drop (m + 1)) := by rw [hs, txt_cut, List.take_length]
    obtain ⟨t1, ht1⟩ : ∃ t, strOfNums (es.take m) = t := ⟨_, rfl⟩
    obtain ⟨t2, ht2⟩ : ∃ t, strOfNums (es.drop (m + 1)) = t := ⟨_, rfl⟩
    rw [ht1] at x1 ⊢
    rw [ht2] at x2 ⊢
    have f0 : ¬ (m : Int) < 0 := by omega
    have f1 : (m : Int) ≤ (s.size : Int) := by omega
    have f2 : (m : Int) + 1 ≤ (s.size : Int) := by omega
    have f3 : (0 : Int) ≤ (m : Int) + 1 := by omega
    have f4 : IntKind.i64.wrap ((m : Int) + 1) = (m : Int) + 1 := by rw [IntKind.wrap_i64]; omega
    have HK := hide (show Below w.heap.size w w.drew from (Below.refl _ _).drew)
    clear hs hb hpp rng hR hr ht1 ht2
    go_enter Tryz.func101, Tryz.ntmps101
    go_wp2_with fail
    refine H.out.mono ?_
    rintro e w1 ⟨rfl, rfl⟩
    go_upto_region 3 with fail
    go_region
    go_wp2
    go_ret3
    exact ⟨rfl, HK.out⟩

theorem cut1 {w : World} {s : ByteArray} {es : List Int} {c : Int} (c0 : 0 ≤ c) (c1 : c < 256) (hb : Byt es) (hs : s = strOfNums es) (hl : es.length ≤ 70368744177664) :
    Calls Tryz.prog 63 #[.string s, .string (strOfNums [c])] w fun e w' => e = .returned (.tuple #[.string (if ixB es c = -1 then s else strOfNums (es.take (ixB es c).toNat)), .string (if ixB es c = -1 then ⟨#[]⟩ else strOfNums (es.drop ((ixB es c).toNat + 1))), .bool (decide (ixB es c ≠ -1))]) ∧ Below w.heap.size w w' := by
  have H := hide (cut1_0 (w := w) c0 c1 hb hs hl)
  clear hs hb hl
  generalize (if ixB es c = -1 then s else strOfNums (es.take (ixB es c).toNat)) = a at *
  generalize (if ixB es c = -1 then (⟨#[]⟩ : ByteArray) else strOfNums (es.drop ((ixB es c).toNat + 1))) = b at *
  generalize decide (ixB es c ≠ -1) = d at *
  go_enter Tryz.func63, Tryz.ntmps63
  go_wp2_with fail
  refine H.out.mono ?_
  rintro e w1 ⟨rfl, hb⟩
  go_wp2
  go_ret3
  exact ⟨rfl, hb⟩

end Go.Proofs.YtinfkoiifemjmaaGreatDoor
