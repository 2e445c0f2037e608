/- EBm, EFw, EShp, ETn -/
import Derived.Test.YthnpndlobhgdhaaGreatDoorS19
import Derived.Test.YthnpndlobhgdhaaGreatDoorS23
import Derived.Test.YthnpndlobhgdhaaGreatDoorS28
import Derived.Test.YthnpndlobhgdhaaGreatDoorS29
import Derived.Test.YthnpndlobhgdhaaGreatDoorS31
namespace Go.Proofs.YthnpndlobhgdhaaGreatDoor
open Go.RowKit
set_option linter.unusedVariables false

theorem acc_scan : ∀ {es : List Int} {k p : Nat}, acc p es = true → (scG es k p).2 = true
  | [], k, p, h => h
  | c :: r, k, p, h => by
    rw [acc] at h
    simp at h
    rw [scG, if_neg h.1]
    exact acc_scan h.2
theorem nx_dig {p : Nat} {c : Int} (hp : p = 3 ∨ p = 4 ∨ p = 8) (h : 48 ≤ c ∧ c ≤ 57) : nx p c = p := by
  have hd : isD c = true := isD_iff.2 h
  have e1 : c ≠ 46 := by omega
  have e2 : c ≠ 101 := by omega
  have e3 : c ≠ 69 := by omega
  unfold nx
  rcases hp with rfl | rfl | rfl <;> simp [hd, e1, e2, e3]
theorem acc_digs {p : Nat} (hp : p = 3 ∨ p = 4 ∨ p = 8) : ∀ {ds rest : List Int}, Dgt ds → acc p (ds ++ rest) = acc p rest
  | [], rest, h => rfl
  | c :: r, rest, h => by
    have hc := h c List.mem_cons_self
    have hn : nx p c = p := nx_dig hp hc
    have h9 : (p != 9) = true := by rcases hp with rfl | rfl | rfl <;> rfl
    rw [List.cons_append, acc, hn, acc_digs hp (fun x hx => h x (List.mem_cons_of_mem _ hx)), h9, Bool.true_and]
theorem acc_step {p q : Nat} {c : Int} {r : List Int} (hn : nx p c = q) (h9 : q ≠ 9) : acc p (c :: r) = acc q r := by
  rw [acc, hn]; simp [h9]
theorem nx_first {p : Nat} {c : Int} (hp : p ≤ 1) (h : 48 ≤ c ∧ c ≤ 57) (h0 : c ≠ 48) : nx p c = 3 := by
  have hd : isD c = true := isD_iff.2 h
  unfold nx
  rw [if_neg (by omega), if_pos hp, if_pos hd, if_neg h0]
theorem nx_57 {p q : Nat} {c : Int} (hp : (p = 5 ∧ q = 4) ∨ (p = 7 ∧ q = 8)) (h : 48 ≤ c ∧ c ≤ 57) : nx p c = q := by
  have hd : isD c = true := isD_iff.2 h
  unfold nx
  rcases hp with ⟨rfl, rfl⟩ | ⟨rfl, rfl⟩ <;> simp [hd]
/-- digits behind a point, or behind the power's sign -/
theorem acc_more {p q : Nat} {ds rest : List Int} (hp : (p = 5 ∧ q = 4) ∨ (p = 7 ∧ q = 8)) (h : Dgt ds) (h0 : 0 < ds.length) : acc p (ds ++ rest) = acc q rest := by
  cases ds with
  | nil => simp at h0
  | cons c r =>
    rw [List.cons_append, acc_step (nx_57 hp (h c List.mem_cons_self)) (by omega), acc_digs (by omega) (fun x hx => h x (List.mem_cons_of_mem _ hx))]
/-- the digits of a power -/
theorem decL_dig (u : Nat) : Dgt (decL u) := by
  induction u using Nat.strongRecOn with
  | _ u ih =>
    unfold decL
    rw [Lib.decDigits]
    by_cases h : u < 10
    · rw [dif_pos h]
      intro x hx
      simp at hx
      omega
    · rw [dif_neg h, List.map_append]
      refine Dgt.append (ih (u / 10) (by omega)) ?_
      intro x hx
      simp at hx
      omega
theorem decL_pos (u : Nat) : 0 < (decL u).length := by
  unfold decL
  rw [List.length_map, Lib.decDigits_length]
  exact Lib.nDigits_pos u
theorem pwF_app (lim : Int) : ∀ (a b : List Int) (z : Int), pwF lim (a ++ b) z = pwF lim b (pwF lim a z)
  | [], b, z => rfl
  | c :: r, b, z => by rw [List.cons_append, pwF, pwF, pwF_app lim r b]
theorem pwF_dec {lim : Int} (u : Nat) (h : (u : Int) ≤ lim) : pwF lim (decL u) 0 = u := by
  induction u using Nat.strongRecOn with
  | _ u ih =>
    unfold decL
    rw [Lib.decDigits]
    by_cases h10 : u < 10
    · rw [dif_pos h10]
      simp only [List.map_cons, List.map_nil, pwF]
      have : ((UInt8.ofNat (48 + u)).toNat : Int) = 48 + u := by simp; omega
      rw [this]; omega
    · rw [dif_neg h10, List.map_append, pwF_app]
      have e : pwF lim (List.map (fun b : UInt8 => (b.toNat : Int)) (Lib.decDigits (u / 10))) 0 = ((u / 10 : Nat) : Int) := ih (u / 10) (by omega) (by omega)
      rw [e]
      simp only [List.map_cons, List.map_nil, pwF]
      have : ((UInt8.ofNat (48 + u % 10)).toNat : Int) = 48 + (u % 10 : Nat) := by simp; omega
      rw [this]; omega
theorem ixE_dig : ∀ {ds rest : List Int}, Dgt ds → ixE (ds ++ rest) = if ixE rest = -1 then -1 else ixE rest + ds.length
  | [], rest, h => by simp
  | c :: r, rest, h => by
    have hc := h c List.mem_cons_self
    have hb : (c == 101 || c == 69) = false := by simp; omega
    have ih := ixE_dig (ds := r) (rest := rest) (fun x hx => h x (List.mem_cons_of_mem _ hx))
    rw [List.cons_append, ixE, hb, ih]
    have rng := ixE_range rest
    by_cases hr : ixE rest = -1
    · simp [hr]
    · rw [if_neg hr]; simp only [Bool.false_eq_true, if_false, List.length_cons]
      rw [if_neg (by omega), if_neg hr]; omega
theorem ixE_pt (rest : List Int) : ixE (46 :: rest) = if ixE rest = -1 then -1 else ixE rest + 1 := by
  rw [ixE]; simp
theorem ixE_no {ds : List Int} (h : Dgt ds) : ixE ds = -1 := by
  have := ixE_dig (ds := ds) (rest := []) h
  rw [List.append_nil] at this
  rw [this]; simp [ixE]
theorem ixB_dig : ∀ {ds rest : List Int}, Dgt ds → ixB (ds ++ rest) 46 = if ixB rest 46 = -1 then -1 else ixB rest 46 + ds.length
  | [], rest, h => by simp
  | c :: r, rest, h => by
    have hc := h c List.mem_cons_self
    have hb : (c == 46) = false := by simp; omega
    have ih := ixB_dig (ds := r) (rest := rest) (fun x hx => h x (List.mem_cons_of_mem _ hx))
    rw [List.cons_append, ixB, hb, ih]
    have rng := ixB_range 46 rest
    by_cases hr : ixB rest 46 = -1
    · simp [hr]
    · rw [if_neg hr]; simp only [Bool.false_eq_true, if_false, List.length_cons]
      rw [if_neg (by omega), if_neg hr]; omega
theorem ixB_no {ds : List Int} (h : Dgt ds) : ixB ds 46 = -1 := by
  have := ixB_dig (ds := ds) (rest := []) h
  rw [List.append_nil] at this
  rw [this]; simp [ixB]
theorem voW_no {ds : List Int} (h : Dgt ds) : voW ds = ds ∧ voF ds = [] := by
  unfold voW voF
  rw [if_pos (ixB_no h), if_pos (ixB_no h)]
  exact ⟨rfl, rfl⟩
theorem voW_pt {a b : List Int} (h : Dgt a) : voW (a ++ 46 :: b) = a ∧ voF (a ++ 46 :: b) = b := by
  have e : ixB (a ++ 46 :: b) 46 = a.length := by
    rw [ixB_dig h]
    have : ixB (46 :: b) 46 = 0 := by rw [ixB]; rfl
    rw [this]; simp
  unfold voW voF
  rw [e, if_neg (by omega), if_neg (by omega)]
  simp
/-- what is read of a text without its sign: the body b, no power -/
theorem vo_plain {U : List Int} (ng : Bool) (hU : headB U 45 = false) (hE : ixE U = -1) : headB ((if ng then [45] else []) ++ U) 45 = ng ∧ voB ((if ng then [45] else []) ++ U) = U ∧ ∀ lim, voP lim ((if ng then [45] else []) ++ U) = 0 := by
  have e : cutB ((if ng then [45] else []) ++ U) 45 = U := by
    unfold cutB
    cases ng
    · simp [hU]
    · simp [headB]
  refine ⟨?_, ?_, fun lim => ?_⟩
  · cases ng
    · simpa using hU
    · rfl
  · unfold voB; rw [e, if_pos hE]
  · unfold voP; rw [e, if_pos hE]
/-- .. with a power -/
theorem vo_power {b : List Int} {n lim : Int} (ng : Bool) (hU : headB (b ++ powT n) 45 = false) (hE : ∀ rest, ixE (b ++ 101 :: rest) = b.length) (h0 : 0 ≤ lim) (hl : 1 - n ≤ lim) (hl' : n - 1 ≤ lim) : headB ((if ng then [45] else []) ++ (b ++ powT n)) 45 = ng ∧ voB ((if ng then [45] else []) ++ (b ++ powT n)) = b ∧ voP lim ((if ng then [45] else []) ++ (b ++ powT n)) = n - 1 := by
  have e : cutB ((if ng then [45] else []) ++ (b ++ powT n)) 45 = b ++ powT n := by
    unfold cutB
    cases ng
    · simp [hU]
    · simp [headB]
  have hI : ixE (b ++ powT n) = b.length := by
    unfold powT
    split <;> exact hE _
  refine ⟨?_, ?_, ?_⟩
  · cases ng
    · simpa using hU
    · rfl
  · unfold voB; rw [e, hI, if_neg (by omega)]; simp
  · unfold voP voT; rw [e, hI, if_neg (by omega)]
    unfold powT
    by_cases hn : n < 1
    · rw [if_pos hn]
      have ed : (b ++ ([101, 45] ++ decL (1 - n).toNat)).drop ((b.length : Int).toNat + 1) = 45 :: decL (1 - n).toNat := by
        rw [show ((b.length : Int).toNat + 1) = b.length + 1 by omega, List.drop_append]
        simp
      rw [ed]
      have eh : headB (45 :: decL (1 - n).toNat) 45 = true := rfl
      rw [eh, if_pos rfl]
      have ec : cutB (45 :: decL (1 - n).toNat) 45 = decL (1 - n).toNat := by unfold cutB; rw [eh, if_pos rfl]; rfl
      rw [ec, cutB_dig (by omega) (decL_dig _), pwF_dec _ (by omega)]
      omega
    · rw [if_neg hn]
      have ed : (b ++ ([101, 43] ++ decL (n - 1).toNat)).drop ((b.length : Int).toNat + 1) = 43 :: decL (n - 1).toNat := by
        rw [show ((b.length : Int).toNat + 1) = b.length + 1 by omega, List.drop_append]
        simp
      rw [ed]
      have eh : headB (43 :: decL (n - 1).toNat) 45 = false := rfl
      rw [eh, if_neg (by simp)]
      have ec : cutB (43 :: decL (n - 1).toNat) 45 = 43 :: decL (n - 1).toNat := by unfold cutB; rw [eh]; rfl
      have ec2 : cutB (43 :: decL (n - 1).toNat) 43 = decL (n - 1).toNat := by unfold cutB headB; simp
      rw [ec, ec2, pwF_dec _ (by omega)]
      omega
/-- behind the digits: the power is taken -/
theorem acc_pow {p : Nat} (hp : p = 3 ∨ p = 4) (n : Int) : acc p (powT n) = true := by
  have h6 : nx p 101 = 6 := by unfold nx; rcases hp with rfl | rfl <;> rfl
  have fin : ∀ u, acc 7 (decL u) = true := fun u => by
    have := acc_more (p := 7) (q := 8) (rest := []) (Or.inr ⟨rfl, rfl⟩) (decL_dig u) (decL_pos u)
    rw [List.append_nil] at this
    rw [this]; rfl
  unfold powT
  split
  · rw [List.cons_append, acc_step h6 (by omega), List.cons_append, acc_step (q := 7) (by decide) (by omega)]
    exact fin _
  · rw [List.cons_append, acc_step h6 (by omega), List.cons_append, acc_step (q := 7) (by decide) (by omega)]
    exact fin _
/-- behind a sign or none -/
theorem acc_sign0 {U : List Int} (ng : Bool) (hU : headB U 45 = false) (h : acc 1 U = true) : acc 0 ((if ng then [45] else []) ++ U) = true := by
  cases ng
  · cases U with
    | nil => simp [acc, fin8] at h
    | cons c r =>
      have hc : c ≠ 45 := by simpa [headB] using hU
      have hn : nx 0 c = nx 1 c := by unfold nx; simp [hc]
      show acc 0 (c :: r) = true
      rw [acc] at h ⊢
      rw [hn]; exact h
  · show acc 0 (45 :: U) = true
    rw [acc_step (q := 1) (by decide) (by omega)]; exact h
/-- what is laid out -/
structure Laid (ng : Bool) (ds : List Int) (P : Int) (T : List Int) : Prop where
  ok : (scG T 0 0).2 = true
  sg : headB T 45 = ng
  val : ∃ c : Nat, dg (voDs T) = dg ds * tn c ∧ voPt T - (voDs T).length = P - ds.length - c
theorem lb_hd {d : Int} {r : List Int} : Nt.lb (d :: r) 0 = d := by simp [Nt.lb]
theorem laid_of {ng : Bool} {ds : List Int} {P : Int} (hb : bareB ds = true) (h0 : -400 < P) (h1 : P < 400) : Laid ng ds P (layoutT ng ds P) := by
  unfold bareB at hb
  simp only [Bool.and_eq_true, decide_eq_true_eq, bne_iff_ne, ne_eq] at hb
  obtain ⟨⟨⟨l0, hf⟩, hl⟩, ha⟩ := hb
  have hd : Dgt ds := fun x hx => isD_iff.1 (List.all_eq_true.1 ha x hx)
  have hf1 : 48 ≤ Nt.lb ds 0 ∧ Nt.lb ds 0 ≤ 57 := hd _ (lb_in l0)
  have hcons : ∃ d r, ds = d :: r := by cases ds with | nil => simp at l0 | cons d r => exact ⟨d, r, rfl⟩
  obtain ⟨d, r, hdr⟩ := hcons
  have hd0 : Nt.lb ds 0 = d := by rw [hdr]; exact lb_hd
  rw [hd0] at hf hf1
  have hr : Dgt r := fun x hx => hd x (by rw [hdr]; exact List.mem_cons_of_mem _ hx)
  have hdrop : ds.drop 1 = r := by rw [hdr]; rfl
  have n1 : nx 1 d = 3 := nx_first (by omega) hf1 hf
  have hrep : ∀ k, Dgt (List.replicate k 48) := fun k x hx => by rw [List.eq_of_mem_replicate hx]; omega
  unfold layoutT layT
  by_cases a1 : (ds.length : Int) ≤ P ∧ P ≤ 21
  · rw [if_pos a1]
    obtain ⟨c, hc⟩ : ∃ c : Nat, (P - ds.length).toNat = c := ⟨_, rfl⟩
    rw [hc]
    have hD : Dgt (ds ++ List.replicate c 48) := hd.append (hrep c)
    have hh : headB (ds ++ List.replicate c 48) 45 = false := by rw [hdr]; simp [headB]; omega
    obtain ⟨e1, e2, e3⟩ := vo_plain ng hh (ixE_no hD)
    have hacc : acc 1 (ds ++ List.replicate c 48) = true := by
      rw [hdr, List.cons_append, acc_step n1 (by omega)]
      have := acc_digs (p := 3) (rest := []) (by omega) (hr.append (hrep c))
      rw [List.append_nil] at this
      rw [this]; rfl
    refine ⟨acc_scan (acc_sign0 ng hh hacc), e1, c, ?_, ?_⟩
    · unfold voDs; rw [e2, (voW_no hD).1, (voW_no hD).2, List.append_nil, dg_append, dg_noughts, List.length_replicate]; omega
    · unfold voDs voPt; rw [e2, e3, (voW_no hD).1, (voW_no hD).2, List.append_nil, List.length_append, List.length_replicate]; omega
  rw [if_neg a1]
  by_cases a2 : 0 < P ∧ P ≤ 21
  · rw [if_pos a2]
    obtain ⟨m, hm⟩ : ∃ m : Nat, P.toNat = m := ⟨_, rfl⟩
    rw [hm]
    have hml : m < ds.length := by omega
    have eU : ds.take m ++ [46] ++ ds.drop m = ds.take m ++ 46 :: ds.drop m := by simp
    rw [eU]
    have hD1 := hd.take m
    have hD2 := hd.drop m
    have htk : ds.take m = d :: r.take (m - 1) := by
      rw [hdr]
      obtain ⟨k, rfl⟩ : ∃ k, m = k + 1 := ⟨m - 1, by omega⟩
      rw [List.take_succ_cons]; rfl
    have hh : headB (ds.take m ++ 46 :: ds.drop m) 45 = false := by rw [htk]; simp [headB]; omega
    have hE : ixE (ds.take m ++ 46 :: ds.drop m) = -1 := by
      rw [ixE_dig hD1, ixE_pt, ixE_no hD2]; simp
    obtain ⟨e1, e2, e3⟩ := vo_plain ng hh hE
    have hacc : acc 1 (ds.take m ++ 46 :: ds.drop m) = true := by
      rw [htk, List.cons_append, acc_step n1 (by omega), acc_digs (p := 3) (by omega) (hr.take _), acc_step (q := 5) (by decide) (by omega)]
      have := acc_more (p := 5) (q := 4) (rest := []) (Or.inl ⟨rfl, rfl⟩) hD2 (by rw [List.length_drop]; omega)
      rw [List.append_nil] at this
      rw [this]; rfl
    refine ⟨acc_scan (acc_sign0 ng hh hacc), e1, 0, ?_, ?_⟩
    · unfold voDs; rw [e2, (voW_pt hD1).1, (voW_pt hD1).2, List.take_append_drop, tn_zero]; omega
    · unfold voDs voPt; rw [e2, e3, (voW_pt hD1).1, (voW_pt hD1).2, List.take_append_drop, List.length_take]; omega
  rw [if_neg a2]
  by_cases a3 : -6 < P ∧ P ≤ 0
  · rw [if_pos a3]
    obtain ⟨m, hm⟩ : ∃ m : Nat, (-P).toNat = m := ⟨_, rfl⟩
    rw [hm]
    have eU : [48, 46] ++ List.replicate m 48 ++ ds = [48] ++ 46 :: (List.replicate m 48 ++ ds) := by simp
    rw [eU]
    have hD1 : Dgt [48] := hrep 1
    have hD2 : Dgt (List.replicate m 48 ++ ds) := (hrep m).append hd
    have hh : headB ([48] ++ 46 :: (List.replicate m 48 ++ ds)) 45 = false := rfl
    have hE : ixE ([48] ++ 46 :: (List.replicate m 48 ++ ds)) = -1 := by
      rw [ixE_dig hD1, ixE_pt, ixE_no hD2]; simp
    obtain ⟨e1, e2, e3⟩ := vo_plain ng hh hE
    have hacc : acc 1 ([48] ++ 46 :: (List.replicate m 48 ++ ds)) = true := by
      rw [List.cons_append, acc_step (q := 2) (by decide) (by omega), List.nil_append, acc_step (q := 5) (by decide) (by omega)]
      have := acc_more (p := 5) (q := 4) (rest := []) (Or.inl ⟨rfl, rfl⟩) hD2 (by rw [List.length_append]; omega)
      rw [List.append_nil] at this
      rw [this]; rfl
    refine ⟨acc_scan (acc_sign0 ng hh hacc), e1, 0, ?_, ?_⟩
    · unfold voDs; rw [e2, (voW_pt hD1).1, (voW_pt hD1).2, dg_append, dg_append, dg_noughts, dg_one, tn_zero]; omega
    · unfold voDs voPt; rw [e2, e3, (voW_pt hD1).1, (voW_pt hD1).2, List.length_append, List.length_append, List.length_replicate]; simp; omega
  rw [if_neg a3, hd0]
  by_cases a4 : ds.length = 1
  · rw [if_pos a4]
    have hr0 : r = [] := by rw [hdr] at a4; simpa using a4
    have hE : ∀ rest, ixE ([d] ++ 101 :: rest) = ([d] : List Int).length := fun rest => by
      rw [ixE_dig (ds := [d]) (fun x hx => by simp at hx; omega)]
      have : ixE (101 :: rest) = 0 := by rw [ixE]; rfl
      rw [this]; simp
    have hh : headB ([d] ++ powT P) 45 = false := by simp [headB]; omega
    obtain ⟨e1, e2, e3⟩ := vo_power (b := [d]) (n := P) (lim := (((if ng = true then [45] else []) ++ ([d] ++ powT P)).length : Int) + 400) ng hh hE (by omega) (by omega) (by omega)
    have hacc : acc 1 ([d] ++ powT P) = true := by
      rw [List.cons_append, acc_step n1 (by omega)]; exact acc_pow (by omega) P
    have hD1 : Dgt [d] := fun x hx => by simp at hx; omega
    have eds : ds = [d] := by rw [hdr, hr0]
    refine ⟨acc_scan (acc_sign0 ng hh hacc), e1, 0, ?_, ?_⟩
    · unfold voDs; rw [e2, (voW_no hD1).1, (voW_no hD1).2, tn_zero, eds]; simp
    · unfold voDs voPt; rw [e2, e3, (voW_no hD1).1, (voW_no hD1).2, eds]; simp; omega
  · rw [if_neg a4, hdrop]
    have eU : [d] ++ [46] ++ r ++ powT P = ([d] ++ 46 :: r) ++ powT P := by simp
    rw [eU]
    have hD1 : Dgt [d] := fun x hx => by simp at hx; omega
    have hE : ∀ rest, ixE (([d] ++ 46 :: r) ++ 101 :: rest) = (([d] ++ 46 :: r) : List Int).length := fun rest => by
      rw [List.append_assoc, ixE_dig hD1, List.cons_append, ixE_pt, ixE_dig hr]
      have : ixE (101 :: rest) = 0 := by rw [ixE]; rfl
      rw [this]; simp
      omega
    have hh : headB (([d] ++ 46 :: r) ++ powT P) 45 = false := by simp [headB]; omega
    obtain ⟨e1, e2, e3⟩ := vo_power (b := [d] ++ 46 :: r) (n := P) (lim := (((if ng = true then [45] else []) ++ (([d] ++ 46 :: r) ++ powT P)).length : Int) + 400) ng hh hE (by omega) (by omega) (by omega)
    have hrl : 0 < r.length := by rw [hdr] at a4; simp at a4; exact List.length_pos_iff.2 a4
    have hacc : acc 1 (([d] ++ 46 :: r) ++ powT P) = true := by
      rw [List.append_assoc, List.cons_append, acc_step n1 (by omega), List.nil_append, List.cons_append, acc_step (q := 5) (by decide) (by omega), acc_more (p := 5) (q := 4) (Or.inl ⟨rfl, rfl⟩) hr hrl]
      exact acc_pow (by omega) P
    have eds : ds = [d] ++ r := by rw [hdr]; rfl
    refine ⟨acc_scan (acc_sign0 ng hh hacc), e1, 0, ?_, ?_⟩
    · unfold voDs; rw [e2, (voW_pt hD1).1, (voW_pt hD1).2, tn_zero, ← eds]; omega
    · unfold voDs voPt; rw [e2, e3, (voW_pt hD1).1, (voW_pt hD1).2, ← eds]; simp; omega
/-- what it says is the nearest pattern of the digits -/
theorem Laid.dv {ng : Bool} {ds T : List Int} {P F L I r : Int} (h : Laid ng ds P T) (hv : DV F L I (dg (voDs T)) (voPt T - (voDs T).length) r) : DV F L I (dg ds) (P - ds.length) r := by
  obtain ⟨c, e1, e2⟩ := h.val
  rw [e1, e2] at hv
  exact dv_ahead c hv

theorem tn_ten (n : Nat) : tn n = 10 ^ n := rfl
/-- the nearest pattern, by layer 7's words and by layer 6's -/
theorem dv_nx {F L I N q r : Int} (hL : L ≤ 0) (hq : -500 ≤ q) : DV F L I N q r ↔ NX F L I (N * TT (gG L) q) r := by
  obtain ⟨K, hK⟩ : ∃ K, tn (500 - (-q).toNat) = K := ⟨_, rfl⟩
  have K0 : 0 < K := by rw [← hK]; exact tn_pos _
  have e5 : E5 = tn (-q).toNat * K := by
    rw [← hK, ← tn_add, show (-q).toNat + (500 - (-q).toNat) = 500 by omega]; rfl
  have eX : N * TT (gG L) q = 2 * (N * tn q.toNat * p2 (-L).toNat) * K := by
    have e1 : (10 : Int) ^ (q + 500).toNat = tn q.toNat * K := by
      rw [← hK, ← tn_add, ← tn_ten, show q.toNat + (500 - (-q).toNat) = (q + 500).toNat by omega]
    have e2 : gG L = 2 * p2 (-L).toNat := by
      unfold gG; rw [show (1 - L).toNat = (-L).toNat + 1 by omega]; rfl
    unfold TT
    rw [e1, e2]; grind
  have eH : ∀ t, vHi F L t = mid2 F L t * tn (-q).toNat * K := fun t => by unfold vHi mid2; rw [e5]; grind
  have eL : ∀ t, vLo F L t = mid2 F L (t - 1) * tn (-q).toNat * K := fun t => by
    unfold vLo mid2; rw [e5, show t - 1 + 1 = t by omega]; grind
  have eq : ∀ {x y : Int}, x * K = y * K ↔ x = y := fun {x y} => eq_scale K0
  unfold DV DN NX
  rw [eX, eH, eL, mle K0, mle K0, eq, eq]
theorem bv_dg : ∀ ds : List Int, bv ds = dg ds
  | [] => rfl
  | a :: x => by rw [bv, dg, bv_dg x, tn_ten]
/-- what layer 6 tells is read as the pattern -/
theorem td_dv {F L I s P : Int} {M N : Nat} {t : ByteArray} {ds : List Int} (hF : 0 < F) (hL : L ≤ 0) (h0 : 0 < s) (h1 : s < I) (h : Td F L s M t P ds N) : DV F L I (dg ds) (P - ds.length) s := by
  have := h.p0
  have := h.n2
  rw [dv_nx hL (by rw [h.len]; omega), nx_inn hF h0 h1, ← bv_dg, h.len]
  exact h.inn
/-- what is laid out of these digits is read as the pattern -/
theorem show_back {F L I s P r : Int} {M N : Nat} {t : ByteArray} {ds : List Int} {ng : Bool} (hF : 0 < F) (hL : L ≤ 0) (h0 : 0 < s) (h1 : s < I) (h : Td F L s M t P ds N) (hl : Laid ng ds P (layoutT ng ds P))
    (hv : DV F L I (dg (voDs (layoutT ng ds P))) (voPt (layoutT ng ds P) - (voDs (layoutT ng ds P)).length) r) : r = s :=
  dv_same hF (hl.dv hv) (td_dv hF hL h0 h1 h) (dle_refl _ _) (dle_refl _ _)

end Go.Proofs.YthnpndlobhgdhaaGreatDoor

namespace Go.Proofs.YthnpndlobhgdhaaGreatDoor
open Go.RowKit
set_option linter.unusedVariables false

/-- with one digit less, cut off or one more: another pattern -/
theorem fewer_out {F L I s p r x : Int} {j : Nat} (hF : 0 < F) (hL : L ≤ 0) (h0 : 0 < s) (h1 : s < I) (hp : -500 ≤ p - j) (ho : Out (vV F L s) (vLo F L s) (vHi F L s) (s % 2 = 0) (TT (gG L) (p - j)))
    (hx : x = vV F L s / TT (gG L) (p - j) ∨ x = vV F L s / TT (gG L) (p - j) + 1) (hv : DV F L I x (p - j) r) : r ≠ s := by
  rintro rfl
  rw [dv_nx hL hp, nx_inn hF h0 h1] at hv
  rcases hx with rfl | rfl
  · exact ho.1 hv
  · exact ho.2 hv
theorem sh_cut10 {F L s p c : Int} {k : Nat} (hF : 0 < F) (h0 : 0 < s) (hL : -1074 ≤ L) (h : ShP F L s p k c) (h17 : k ≤ 17) (hk : 2 ≤ k) : c / 10 = vV F L s / TT (gG L) (p - (k - 1 : Nat)) := by
  have hp := point_low hF h0 hL h.hi
  have hG := gG_pos L
  have t0 := TT_pos hG (p - k)
  have et : TT (gG L) (p - (k - 1 : Nat)) = TT (gG L) (p - k) * 10 := by
    rw [show p - ((k - 1 : Nat) : Int) = (p - k) + 1 by omega, TT_succ (by omega), Int.mul_comm]
  rw [et, ← Int.ediv_ediv_of_nonneg (by omega)]
  rcases h.pick with ⟨e, _, _⟩ | ⟨e, hin, _⟩
  · rw [e]
  · have h9 : vV F L s / TT (gG L) (p - k) % 10 ≠ 9 := fun h9 => by
      have := Sh.nine h hG (by omega) e h9 hin
      omega
    rw [e]; omega
/-- c / 10 and the next are read as others -/
theorem sh_fewer {F L I s p c r x : Int} {k : Nat} (hF : 0 < F) (hL : -1074 ≤ L) (hL0 : L ≤ 0) (h0 : 0 < s) (h1 : s < I) (h : ShP F L s p k c) (h17 : k ≤ 17) (hk : 2 ≤ k)
    (hx : x = c / 10 ∨ x = c / 10 + 1) (hv : DV F L I x (p - (k - 1 : Nat)) r) : r ≠ s := by
  have hp := point_low hF h0 hL h.hi
  rw [sh_cut10 hF h0 hL h h17 hk] at hx
  exact fewer_out hF hL0 h0 h1 (by omega) (h.out (k - 1) (by omega) (by omega)) hx hv
/-- the first digits of an exact number, and where it lies -/
theorem exv_low {F L s pt : Int} {es : List Int} (hd : Dgt es) (he : dg es * tn (pt - es.length).toNat * p2 (-L).toNat = um F L L s * tn (-(pt - es.length)).toNat) (hL : L ≤ 0) {k : Nat} (hk : k ≤ es.length) (hp : -500 ≤ pt - k) :
    dg (es.take k) * TT (gG L) (pt - k) ≤ vV F L s ∧ vV F L s < (dg (es.take k) + 1) * TT (gG L) (pt - k) ∧ (k = es.length → vV F L s = dg es * TT (gG L) (pt - k)) := by
  obtain ⟨x, hx⟩ : ∃ x, dg (es.take k) = x := ⟨_, rfl⟩
  have hdl : (es.drop k).length = es.length - k := List.length_drop
  have hs : dg es = x * tn (es.length - k) + dg (es.drop k) := by
    rw [← hx, ← hdl, ← dg_append, List.take_append_drop]
  have hr := dg_range (hd.drop k)
  rw [hdl] at hr
  have r0 : k = es.length → dg (es.drop k) = 0 := fun e => by rw [e, List.drop_length]; rfl
  obtain ⟨y, hy⟩ : ∃ y, dg (es.drop k) = y := ⟨_, rfl⟩
  rw [hy] at hs hr r0
  rw [hx]
  obtain ⟨A, hA⟩ : ∃ A, tn (-(pt - es.length)).toNat = A := ⟨_, rfl⟩
  have A0 : 0 < A := by rw [← hA]; exact tn_pos _
  obtain ⟨C, hC⟩ : ∃ C, tn (pt - es.length).toNat = C := ⟨_, rfl⟩
  have C0 : 0 < C := by rw [← hC]; exact tn_pos _
  obtain ⟨D, hD⟩ : ∃ D, tn (es.length - k) = D := ⟨_, rfl⟩
  have D0 : 0 < D := by rw [← hD]; exact tn_pos _
  obtain ⟨Z, hZ⟩ : ∃ Z, p2 (-L).toNat = Z := ⟨_, rfl⟩
  have Z0 : 0 < Z := by rw [← hZ]; exact p2_pos _
  have eT : TT (gG L) (pt - k) * A = C * D * E5 * (2 * Z) := by
    have e2 : gG L = 2 * Z := by
      unfold gG; rw [← hZ, show (1 - L).toNat = (-L).toNat + 1 by omega]; rfl
    have e1 : (10 : Int) ^ (pt - k + 500).toNat * A = C * D * E5 := by
      have e5 : E5 = tn 500 := rfl
      rw [e5, ← tn_ten, ← hA, ← hC, ← hD, ← tn_add, ← tn_add, ← tn_add]
      congr 1
      omega
    unfold TT
    rw [e2, Int.mul_assoc, Int.mul_comm (2 * Z) A, ← Int.mul_assoc, e1]
  have eV : vV F L s * A = (x * D + y) * C * Z * 2 * E5 := by
    unfold vV
    rw [hC, hA, hZ, hs, hD] at he
    rw [he]; grind
  rw [hD] at hr
  have P0 : 0 < C * (E5 * (2 * Z)) := Int.mul_pos C0 (Int.mul_pos E5_pos (by omega))
  refine ⟨?_, ?_, ?_⟩
  · rw [← mle A0, Int.mul_assoc, eT, eV]
    have : x * (C * D * E5 * (2 * Z)) = (x * D) * (C * (E5 * (2 * Z))) := by grind
    rw [this, show (x * D + y) * C * Z * 2 * E5 = (x * D + y) * (C * (E5 * (2 * Z))) by grind, mle P0]
    omega
  · rw [← mlt A0, Int.mul_assoc, eT, eV]
    have : (x + 1) * (C * D * E5 * (2 * Z)) = (x * D + D) * (C * (E5 * (2 * Z))) := by grind
    rw [this, show (x * D + y) * C * Z * 2 * E5 = (x * D + y) * (C * (E5 * (2 * Z))) by grind, mlt P0]
    omega
  · intro e
    have y0 := r0 e
    refine (eq_scale A0).1 ?_
    have D1 : D = 1 := by rw [← hD, e, Nat.sub_self]; rfl
    rw [Int.mul_assoc, eT, eV, hs, hD, y0, D1]; grind
theorem exv_pt {F L s pt : Int} {es : List Int} (hd : Dgt es) (hF : 0 < F) (h0 : 0 < s) (he : dg es * tn (pt - es.length).toNat * p2 (-L).toNat = um F L L s * tn (-(pt - es.length)).toNat) (hL : -1074 ≤ L) : -480 ≤ pt := by
  rcases Int.lt_or_le pt (-480) with g | g
  · exfalso
    have u0 : 1 ≤ um F L L s := by
      rw [um_at]
      have a := mst_pos hF h0
      have b := p2_pos (est F L s - L).toNat
      exact Int.mul_pos a b
    have hr := dg_range hd
    have e1 : (pt - es.length).toNat = 0 := by omega
    rw [e1, tn_zero, Int.mul_one] at he
    have e2 : tn es.length * tn 480 ≤ tn (-(pt - es.length)).toNat := by rw [← tn_add]; exact tn_mono (by omega)
    have e3 : p2 (-L).toNat ≤ p2 1074 := p2_mono (by omega)
    have e4 : p2 1074 < tn 480 := by rw [p2_pow]; unfold tn; decide +kernel
    have z0 := p2_pos (-L).toNat
    have t0 := tn_pos es.length
    have e5 : dg es * p2 (-L).toNat ≤ tn es.length * p2 (-L).toNat := Int.mul_le_mul_of_nonneg_right (by omega) (by omega)
    have e6 : tn es.length * p2 (-L).toNat < tn es.length * tn 480 := Int.mul_lt_mul_of_pos_left (by omega) t0
    have e7 : 1 * tn (-(pt - es.length)).toNat ≤ um F L L s * tn (-(pt - es.length)).toNat := Int.mul_le_mul_of_nonneg_right u0 (by have := tn_pos (-(pt - es.length)).toNat; omega)
    omega
  · exact g
theorem exv_point {F L s p pt : Int} {es : List Int} (hd : Dgt es) (hl : 0 < es.length) (hf : Nt.lb es 0 ≠ 48) (he : dg es * tn (pt - es.length).toNat * p2 (-L).toNat = um F L L s * tn (-(pt - es.length)).toNat) (hL : L ≤ 0) (hp : -480 ≤ pt)
    (lo : TT (gG L) (p - 1) ≤ vV F L s) (hi : vV F L s < TT (gG L) p) : p = pt := by
  have a := exv_low hd he hL (k := 0) (by omega) (by omega)
  have b := exv_low hd he hL (k := 1) (by omega) (by omega)
  have hG := gG_pos L
  simp only [List.take_zero, dg] at a
  have f1 : es.take 1 = [Nt.lb es 0] := by
    cases es with
    | nil => simp at hl
    | cons d r => simp [Nt.lb]
  have f2 := hd _ (lb_in hl)
  rw [f1, dg_one] at b
  have a1 := TT_lt hG (show TT (gG L) (p - 1) < TT (gG L) (pt - ((0 : Nat) : Int)) by have := a.2.1; omega)
  have t1 := TT_pos hG (pt - ((1 : Nat) : Int))
  have m1 : 1 * TT (gG L) (pt - ((1 : Nat) : Int)) ≤ (Nt.lb es 0 - 48) * TT (gG L) (pt - ((1 : Nat) : Int)) := Int.mul_le_mul_of_nonneg_right (by omega) (by omega)
  have b1 := TT_lt hG (show TT (gG L) (pt - ((1 : Nat) : Int)) < TT (gG L) p by have := b.1; omega)
  omega
theorem div_at {V t x : Int} (ht : 0 < t) (h0 : x * t ≤ V) (h1 : V < (x + 1) * t) : V / t = x := by
  have a : x ≤ V / t := (Int.le_ediv_iff_mul_le ht).2 h0
  have b : V / t < x + 1 := (Int.ediv_lt_iff_lt_mul ht).2 h1
  omega
/-- where the exact number has no more digits than that, it is within reach -/
theorem exv_more {F L s p pt c : Int} {k : Nat} {es : List Int} (hF : 0 < F) (h0 : 0 < s) (hL : -1074 ≤ L) (hL0 : L ≤ 0) (h : ShP F L s p k c) (h17 : k ≤ 17) (hd : Dgt es) (hl : 0 < es.length) (hf : Nt.lb es 0 ≠ 48) (hpt : -480 ≤ pt)
    (he : dg es * tn (pt - es.length).toNat * p2 (-L).toNat = um F L L s * tn (-(pt - es.length)).toNat) : p = pt ∧ k ≤ es.length := by
  have hpp := exv_point hd hl hf he hL0 hpt h.lo h.hi
  refine ⟨hpp, ?_⟩
  rcases Nat.lt_or_ge es.length k with g | g
  · exfalso
    have o := h.out es.length (by omega) g
    have a := exv_low hd he hL0 (k := es.length) (by omega) (by omega)
    have hG := gG_pos L
    have t0 := TT_pos hG (pt - es.length)
    rw [hpp] at o
    have e := a.2.2 rfl
    have q : vV F L s / TT (gG L) (pt - es.length) = dg es := by rw [e, Int.mul_ediv_cancel _ (by omega)]
    have := o.1
    rw [q, ← e] at this
    exact this (Or.inl ⟨vLo_lt hF h0, vHi_gt hF (by omega)⟩)
  · exact g
/-- the first digits of the exact number, one fewer than are told, and the next: read as others -/
theorem exv_fewer {F L I s p pt c r x : Int} {k : Nat} {es : List Int} (hF : 0 < F) (h0 : 0 < s) (h1 : s < I) (hL : -1074 ≤ L) (hL0 : L ≤ 0) (h : ShP F L s p k c) (h17 : k ≤ 17) (hk : 2 ≤ k) (hd : Dgt es) (hl : 0 < es.length) (hf : Nt.lb es 0 ≠ 48) (hpt : -480 ≤ pt)
    (he : dg es * tn (pt - es.length).toNat * p2 (-L).toNat = um F L L s * tn (-(pt - es.length)).toNat)
    (hx : x = dg (es.take (k - 1)) ∨ x = dg (es.take (k - 1)) + 1) (hv : DV F L I x (pt - (k - 1 : Nat)) r) : r ≠ s := by
  obtain ⟨hpp, hkl⟩ := exv_more hF h0 hL hL0 h h17 hd hl hf hpt he
  have a := exv_low hd he hL0 (k := k - 1) (by omega) (by omega)
  have t0 := TT_pos (gG_pos L) (pt - (k - 1 : Nat))
  have q := div_at t0 a.1 a.2.1
  have o := h.out (k - 1) (by omega) (by omega)
  rw [hpp] at o
  rw [← q] at hx
  exact fewer_out hF hL0 h0 h1 (by omega) o hx hv
theorem txt_dig (k : Nat) (c : Int) : Dgt (txt k c) := by
  unfold txt
  split
  · intro x hx; simp at hx; omega
  · exact dl_byte k c
theorem str_inj : ∀ {a b : List Int}, Byt a → Byt b → strOfNums a = strOfNums b → a = b := by
  intro a b ha hb h
  have h1 := str_list a
  rw [h, str_list b] at h1
  clear h
  induction a generalizing b with
  | nil => cases b with
    | nil => rfl
    | cons y b => simp [by8] at h1
  | cons x a ih =>
    cases b with
    | nil => simp [by8] at h1
    | cons y b =>
      simp only [by8, List.map_cons, List.cons.injEq] at h1
      have hx := ha x List.mem_cons_self
      have hy := hb y List.mem_cons_self
      have e : x = y := by
        have := congrArg UInt8.toNat h1.1
        simp at this
        omega
      rw [e, ih (fun z hz => ha z (List.mem_cons_of_mem _ hz)) (fun z hz => hb z (List.mem_cons_of_mem _ hz)) h1.2]
/-- Td of the very digits -/
theorem td_txt {F L s p c : Int} {k M fr : Nat} (hfr : F = p2 fr) (h0 : 0 < s) (hL : -1074 ≤ L) (hL0 : L ≤ 0) (he : est F L s ≤ 1023 - fr) (hM : 2 * F ≤ 10 ^ M) (hM2 : M ≤ 16) (h : ShP F L s p k c) (h17 : k ≤ 17) : ∃ N, Td F L s M (strOfNums (txt k c)) (pt k c p) (txt k c) N := by
  obtain ⟨ds, N, td⟩ := td_of hfr h0 hL hL0 he hM hM2 h h17
  have e : txt k c = ds := str_inj (txt_dig k c).byt (fun x hx => by have := td.dg x hx; omega) td.t
  rw [← e] at td
  exact ⟨N, td⟩
theorem layoutT_len {ng : Bool} {ds : List Int} {P : Int} (h17 : ds.length ≤ 17) (h0 : -400 < P) (h1 : P < 400) : (layoutT ng ds P).length ≤ 25 := by
  have hdec : ∀ u : Nat, u < 1000 → (decL u).length ≤ 3 := fun u hu => by
    unfold decL
    rw [List.length_map, Lib.decDigits_length]
    rcases Nat.lt_or_ge u 10 with g | g
    · rw [Lib.nDigits_small g]; omega
    · rcases Nat.lt_or_ge u 100 with g2 | g2
      · rw [Lib.nDigits_unique 1 u (by omega) (by omega)]; omega
      · rw [Lib.nDigits_unique 2 u (by omega) (by omega)]; omega
  have hpow : (powT P).length ≤ 5 := by
    unfold powT
    split
    · have := hdec (1 - P).toNat (by omega); rw [List.length_append]; simp only [List.length_cons, List.length_nil]; omega
    · have := hdec (P - 1).toNat (by omega); rw [List.length_append]; simp only [List.length_cons, List.length_nil]; omega
  have hs : (if ng = true then [45] else ([] : List Int)).length ≤ 1 := by cases ng <;> simp
  have hlay : (layT ds P (powT P)).length ≤ 24 := by
    unfold layT
    split
    · rw [List.length_append, List.length_replicate]; omega
    · split
      · simp only [List.length_append, List.length_take, List.length_drop, List.length_cons, List.length_nil]; omega
      · split
        · simp only [List.length_append, List.length_replicate, List.length_cons, List.length_nil]; omega
        · split
          · simp only [List.length_append, List.length_cons, List.length_nil]; omega
          · simp only [List.length_append, List.length_drop, List.length_cons, List.length_nil]; omega
  unfold layoutT
  rw [List.length_append]
  omega

end Go.Proofs.YthnpndlobhgdhaaGreatDoor

namespace Go.Proofs.YthnpndlobhgdhaaGreatDoor
open Go.RowKit
set_option linter.unusedVariables false

theorem td_64 {s p c : Int} {k : Nat} (s0 : 0 < s) (s1 : s < 9218868437227405312) (sh : ShP 4503599627370496 (-1074) s p k c) (h17 : k ≤ 17) : ∃ N, Td 4503599627370496 (-1074) s 16 (strOfNums (txt k c)) (pt k c p) (txt k c) N :=
  td_txt fr_d s0 (by decide) (by decide) (by have := est_top (F := 4503599627370496) (L := -1074) (s := s) (n := 2047) (by decide) (by decide) (by omega) (by omega); omega) (by decide) (by decide) sh h17
set_option maxHeartbeats 4000000 in
set_option maxRecDepth 100000 in
theorem show_sh {w : World} (T : Lays w) (U : Brn w) (hT : Lib.TabIs Tryz.prog w "internal/strconv.uint64pow10" .u64 Lib.pow10Tab) (hG : 14 < w.heap.size) {x s : Int} {ng : Bool} (x0 : 0 ≤ x) (x1 : x < 18446744073709551616) (hs : x % 9223372036854775808 = s) (hng : ng = decide (9223372036854775808 ≤ x)) (s0 : 0 < s) (s1 : s < 9218868437227405312) :
    Calls Tryz.prog 9 #[.int .u64 x] w fun e w' => ∃ p k c, ShP 4503599627370496 (-1074) s p k c ∧ k ≤ 17 ∧ e = .returned (.string (strOfNums (layoutT ng (txt k c) (pt k c p)))) ∧ Below w.heap.size w w' := by
  have HCL := hide (class_64 T x s x0 x1 hs)
  obtain ⟨k, hk⟩ : ∃ k, cls 9223372036854775808 4503599627370496 s = k := ⟨_, rfl⟩
  have k5 : (k == 5) = false ∧ (k == 4) = false ∧ (k == 1) = false := by
    rw [← hk]
    unfold cls
    refine ⟨beq_eq_false_iff_ne.2 ?_, beq_eq_false_iff_ne.2 ?_, beq_eq_false_iff_ne.2 ?_⟩ <;> (repeat' split) <;> omega
  obtain ⟨k5, k4, k1⟩ := k5
  rw [hk] at HCL
  have HD := hide (fun (W : World) (TW : Lays W) (UW : Brn W) => digits_d (w := W) TW UW x s ng x0 x1 hs hng)
  clear hk hs hng
  go_enter Tryz.func9, Tryz.ntmps9
  go_wp2_with fail
  refine HCL.out.mono ?_
  rintro e w1 ⟨rfl, b1⟩
  clear HCL
  go_wp2_with fail
  refine (HD.out _ (T.below b1) (U.below b1)).mono ?_
  clear HD
  rintro r w2 ⟨v, ok, rfl, dg, b2⟩
  obtain ⟨rfl, p, kk, c, sh, h17, rfl⟩ := dg.2.2 s0 s1
  obtain ⟨N, td⟩ := td_64 s0 s1 sh h17
  have HSH := hide (And.intro sh h17)
  obtain ⟨P, hP⟩ : ∃ P, pt kk c p = P := ⟨_, rfl⟩
  have HP := hide hP
  rw [hP] at td ⊢
  obtain ⟨tx, htx⟩ : ∃ tx, strOfNums (txt kk c) = tx := ⟨_, rfl⟩
  have hTX : tx = strOfNums (txt kk c) := htx.symm
  rw [htx]
  have b12 := below_trans b1 b2
  have C := cell3_new w2 (.bool ng) (.string tx) (.int .i64 P) 23
  have K := below_trans b12 (bel_new w2 (.cells #[.bool ng, .string tx, .int .i64 P] 23))
  have HPT := hide ((show Pt w.heap.size w from ⟨hG, hT⟩).below K)
  have HY := hide (fun (W : World) (h1 : Lib.TabIs Tryz.prog W "internal/strconv.uint64pow10" .u64 Lib.pow10Tab) (h2 : 14 < W.heap.size) => layout_yes (w := W) (ng := ng) (s := tx) (es := txt kk c) (n := P) (by have := td.p0; omega) (by have := td.p1; omega) (txt_dig kk c).byt hTX (by have := td.len; have := td.n2; omega) (td_bare td) h1 h2)
  have c0 := C.c0; have c1 := C.c1; have c2 := C.c2
  have ks := K.size
  clear b1 b2 b12 C dg sh td htx hTX hP hT h17
  go_wp2_with fail
  refine (HY.out _ HPT.out.2 (by simp at ks ⊢; omega)).mono ?_
  rintro e w3 ⟨rfl, b3⟩
  have KK := below_trans K b3
  clear K b3 HY
  go_wp2
  go_ret
  exact ⟨p, kk, c, HSH.out.1, HSH.out.2, by rw [HP.out]; rfl, KK⟩
/-- what is shown, in one word -/
structure Shn (s : Int) (ng : Bool) (T : List Int) : Prop where
  dv : ∀ r, DV 4503599627370496 (-1074) 9218868437227405312 (dg (voDs T)) (voPt T - (voDs T).length) r → r = s
  ok : (scG T 0 0).2 = true
  sg : headB T 45 = ng
  len : T.length ≤ 25
  by_ : Byt T
theorem layoutT_byt {ng : Bool} {ds : List Int} {P : Int} (h : Dgt ds) (l0 : 0 < ds.length) : Byt (layoutT ng ds P) := by
  have hp : Byt (powT P) := by
    intro x hx
    unfold powT at hx
    split at hx
    · rcases List.mem_append.1 hx with h1 | h1
      · simp at h1; omega
      · exact (decL_dig _).byt x h1
    · rcases List.mem_append.1 hx with h1 | h1
      · simp at h1; omega
      · exact (decL_dig _).byt x h1
  have hb := h.byt
  have hf : 0 ≤ Nt.lb ds 0 ∧ Nt.lb ds 0 < 256 := hb _ (lb_in l0)
  intro x hx
  unfold layoutT layT at hx
  rcases List.mem_append.1 hx with h1 | h1
  · cases ng
    · simp at h1
    · simp at h1; omega
  · repeat' split at h1
    · rcases List.mem_append.1 h1 with h2 | h2
      · exact hb x h2
      · rw [List.eq_of_mem_replicate h2]; omega
    · simp only [List.mem_append, List.mem_cons, List.not_mem_nil, or_false] at h1
      rcases h1 with (h2 | h2) | h2
      · exact hb x (List.mem_of_mem_take h2)
      · omega
      · exact hb x (List.mem_of_mem_drop h2)
    · simp only [List.mem_append, List.mem_cons, List.not_mem_nil, or_false] at h1
      rcases h1 with (h2 | h2) | h2
      · omega
      · rw [List.eq_of_mem_replicate h2]; omega
      · exact hb x h2
    · simp only [List.mem_append, List.mem_cons, List.not_mem_nil, or_false] at h1
      rcases h1 with h2 | h2
      · omega
      · exact hp x h2
    · simp only [List.mem_append, List.mem_cons, List.not_mem_nil, or_false] at h1
      rcases h1 with ((h2 | h2) | h2) | h2
      · omega
      · omega
      · exact hb x (List.mem_of_mem_drop h2)
      · exact hp x h2
theorem shn_of {s p c : Int} {k : Nat} (ng : Bool) (s0 : 0 < s) (s1 : s < 9218868437227405312) (sh : ShP 4503599627370496 (-1074) s p k c) (h17 : k ≤ 17) : Shn s ng (layoutT ng (txt k c) (pt k c p)) := by
  obtain ⟨N, td⟩ := td_64 s0 s1 sh h17
  have hl := laid_of (ng := ng) (td_bare td) td.p0 td.p1
  exact ⟨fun r hr => show_back (by decide) (by decide) s0 s1 td hl hr, hl.ok, hl.sg, layoutT_len (by rw [td.len]; exact td.n2) td.p0 td.p1, layoutT_byt (txt_dig k c) (by rw [td.len]; exact td.n0)⟩

end Go.Proofs.YthnpndlobhgdhaaGreatDoor

namespace Go.Proofs.YthnpndlobhgdhaaGreatDoor
open Go.RowKit
set_option linter.unusedVariables false

/-- what ecma's functions look at -/
structure Ev (w : World) : Prop where
  T : Lays w
  U : Brn w
  P : Lib.TabIs Tryz.prog w "internal/strconv.uint64pow10" .u64 Lib.pow10Tab
  g : 14 < w.heap.size
  e : ∃ tE pE, w.cell? ⟨0, 0, none⟩ = some (.iface tE pE)
  h : 0 < w.heap.size
theorem Ev.below {w w' : World} (h : Ev w) (hb : Below w.heap.size w w') : Ev w' := by
  refine ⟨h.T.below hb, h.U.below hb, ((show Pt w.heap.size w from ⟨h.g, h.P⟩).below hb).2, Nat.lt_of_lt_of_le h.g hb.size, ?_, Nat.lt_of_lt_of_le h.h hb.size⟩
  obtain ⟨tE, pE, he⟩ := h.e
  exact ⟨tE, pE, (hb.cell (p := ⟨0, 0, none⟩) h.h).trans he⟩
/-- what Read answers: no number, too great, or the pattern -/
def RdIs (es : List Int) (e : Ending) : Prop :=
  (∃ u v, e = .returned (.tuple #[.int .u64 0, .iface u v])) ∨
  ((scG es 0 0).2 = true ∧ ∃ r, 0 ≤ r ∧ r < 9218868437227405312 ∧ DV 4503599627370496 (-1074) 9218868437227405312 (dg (voDs es)) (voPt es - (voDs es).length) r ∧ e = .returned (.tuple #[.int .u64 (r + b2i (headB es 45) * 9223372036854775808), .nilIface]))
theorem read_is {w : World} {s : ByteArray} {es : List Int} (h : Ev w) (hb : Byt es) (hs : s = strOfNums es) (hl : es.length ≤ 4294967000) :
    Calls Tryz.prog 19 #[.string s] w fun e w' => RdIs es e ∧ Below w.heap.size w w' := by
  obtain ⟨tE, pE, he⟩ := h.e
  cases hok : (scG es 0 0).2 with
  | false =>
    refine (read_bad hb hs (by omega) hok he).mono ?_
    rintro e w' ⟨rfl, hb, _⟩
    exact ⟨Or.inl ⟨_, _, rfl⟩, hb⟩
  | true =>
    refine (read_good h.T hb hs hl hok he h.h).mono ?_
    rintro e w' ⟨hb, r, hv, ⟨h1, rfl⟩ | ⟨_, b, _, rfl⟩⟩
    · exact ⟨Or.inr ⟨hok, r, hv.1, h1, hv, rfl⟩, hb⟩
    · exact ⟨Or.inl ⟨_, _, rfl⟩, hb⟩
/-- of what is shown of s -/
theorem read_shn {w : World} {t : ByteArray} {T : List Int} {s : Int} {ng : Bool} (h : Ev w) (hT : Shn s ng T) (s0 : 0 ≤ s) (s1 : s < 9218868437227405312) (ht : t = strOfNums T) :
    Calls Tryz.prog 19 #[.string t] w fun e w' => e = .returned (.tuple #[.int .u64 (s + b2i ng * 9223372036854775808), .nilIface]) ∧ Below w.heap.size w w' := by
  obtain ⟨tE, pE, he⟩ := h.e
  have hl := hT.len
  refine (read_good h.T hT.by_ ht (by omega) hT.ok he h.h).mono ?_
  rintro e w' ⟨hb, r, hv, h1⟩
  have hr := hT.dv r hv
  subst hr
  rcases h1 with ⟨h1, rfl⟩ | ⟨h1, _⟩
  · rw [hT.sg]; exact ⟨rfl, hb⟩
  · omega
theorem shn_zero : Shn 0 false [48] := by
  refine ⟨fun r hr => ?_, by decide, by decide, by decide, fun x hx => by simp at hx; omega⟩
  have e1 : dg (voDs [48]) = 0 := by decide
  rw [e1] at hr
  exact dv_same (by decide) hr (dv_zero wide_d (q := 0)) (by unfold dle; simp) (by unfold dle; simp)

end Go.Proofs.YthnpndlobhgdhaaGreatDoor
