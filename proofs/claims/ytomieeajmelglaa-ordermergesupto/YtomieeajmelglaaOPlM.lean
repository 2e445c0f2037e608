/- OrderPlaces: Search counts; Twice is the first (plain) -/
import Derived.Test.YtomieeajmelglaaOSrtM
import Derived.Test.YtomieeajmelglaaOSrch
import Derived.Test.YtomieeajmelglaaOTw
namespace Go.Proofs.Ytomieeajmelglaa
set_option linter.unusedVariables false

/-- what an order compares -/
def oK (o : Int) (a : It) : Int := if o = 2 then - oKey o a.1 else oKey o a.1
theorem ocmp_lt {o : Int} {a b : It} : ocmp o a b < 0 ↔ oK o a < oK o b := by
  unfold ocmp oK oSgn
  split <;> split <;> (try split) <;> omega
theorem ocmp_eq {o : Int} {a b : It} : ocmp o a b = 0 ↔ oK o a = oK o b := by
  unfold ocmp oK oSgn
  split <;> split <;> (try split) <;> omega
theorem byF_lt {o : Int} {a b : It} : byF o a b < 0 ↔ oK o a < oK o b := (byF_neg o a b).trans ocmp_lt
theorem byF_eq {o : Int} {a b : It} : byF o a b = 0 ↔ oK o a = oK o b := (byF_zero o a b).trans ocmp_eq

theorem sort_rises (o : Int) (l : List It) : (srt (byF o) 1 l).Pairwise (fun a b => oK o a ≤ oK o b) := by
  refine srt_pw (R := fun a b => oK o a ≤ oK o b) (fun a b c h1 h2 => Int.le_trans h1 h2) ?_
  refine List.Pairwise.imp_of_mem ?_ (List.pairwise_of_forall (R := fun _ _ => True) (fun _ _ => trivial))
  intro a b _ _ _
  exact ⟨fun h => by have := byF_lt.1 h; omega, fun h => by have : ¬ oK o b < oK o a := fun e => h (byF_lt.2 e); omega⟩

theorem bsr_spec {f : It → It → Int} {l : List It} {x : It} (hm : ∀ i j, i < j → j < l.length → f (l[j]?.getD (0, 0)) x < 0 → f (l[i]?.getD (0, 0)) x < 0) {lo hi : Nat} (h : lo ≤ hi) (hl : hi ≤ l.length)
    (h1 : ∀ i, i < lo → f (l[i]?.getD (0, 0)) x < 0) (h2 : ∀ i, hi ≤ i → i < l.length → ¬ f (l[i]?.getD (0, 0)) x < 0) :
    bsr f l x lo hi ≤ l.length ∧ (∀ i, i < bsr f l x lo hi → f (l[i]?.getD (0, 0)) x < 0) ∧ (∀ i, bsr f l x lo hi ≤ i → i < l.length → ¬ f (l[i]?.getD (0, 0)) x < 0) := by
  fun_induction bsr f l x lo hi with
  | case1 lo hi h0 h3 ih =>
    refine ih (by omega) hl (fun i hi' => ?_) h2
    by_cases e : i = lo + (hi - lo) / 2
    · rw [e]; exact h3
    · exact hm i (lo + (hi - lo) / 2) (by omega) (by omega) h3
  | case2 lo hi h0 h3 ih =>
    refine ih (by omega) (by omega) h1 (fun i hi' hil hlt => ?_)
    by_cases e : i = lo + (hi - lo) / 2
    · rw [e] at hlt; exact h3 hlt
    · exact h3 (hm _ i (by omega) hil hlt)
  | case3 lo hi h0 =>
    have : lo = hi := by omega
    subst this
    exact ⟨hl, h1, h2⟩
theorem count_cut {α : Type} {p : α → Bool} (l : List α) (d : α) (k : Nat) (hk : k ≤ l.length) (h1 : ∀ i, i < k → p (l[i]?.getD d) = true) (h2 : ∀ i, k ≤ i → i < l.length → p (l[i]?.getD d) = false) : l.countP p = k := by
  induction l generalizing k with
  | nil => simp at hk ⊢; omega
  | cons a l ih =>
    cases k with
    | zero =>
      have h0 := h2 0 (Nat.le_refl _) (by simp)
      have := ih 0 (by omega) (fun i hi => by omega) (fun i _ hi => by have := h2 (i + 1) (by omega) (by simpa using hi); simpa using this)
      simp at h0
      rw [List.countP_cons, this]
      simp [h0]
    | succ k =>
      have h0 := h1 0 (by omega)
      have := ih k (by simpa using hk) (fun i hi => by have := h1 (i + 1) (by omega); simpa using this) (fun i hi hil => by have := h2 (i + 1) (by omega) (by simpa using hil); simpa using this)
      simp at h0
      rw [List.countP_cons, this]
      simp [h0]
theorem rises_get {o : Int} {s : List It} (h : s.Pairwise (fun a b => oK o a ≤ oK o b)) {i j : Nat} (hij : i < j) (hj : j < s.length) : oK o (s[i]?.getD (0, 0)) ≤ oK o (s[j]?.getD (0, 0)) := by
  have := List.pairwise_iff_getElem.1 h i j (by omega) hj hij
  simpa [show i < s.length by omega, hj] using this
/-- Search's number, and whether it is there -/
theorem search_spec (o : Int) (l : List It) (x : It) : bsr (byF o) (srt (byF o) 1 l) x 0 (srt (byF o) 1 l).length = l.countP (fun a => decide (ocmp o a x < 0)) ∧
    bsOk (byF o) (srt (byF o) 1 l) x (l.countP (fun a => decide (ocmp o a x < 0))) = l.any (fun a => ocmp o a x == 0) := by
  have hr := sort_rises o l
  have hp := srt_perm (byF o) 1 l
  obtain ⟨s, hs⟩ : ∃ s, srt (byF o) 1 l = s := ⟨_, rfl⟩
  rw [hs] at hr hp ⊢
  have sp := bsr_spec (f := byF o) (l := s) (x := x) (fun i j hij hj h => by
    have := rises_get hr hij hj
    exact byF_lt.2 (by have := byF_lt.1 h; omega)) (Nat.zero_le _) (Nat.le_refl _) (fun i hi => by omega) (fun i hi hl => by omega)
  have hc : s.countP (fun a => decide (ocmp o a x < 0)) = bsr (byF o) s x 0 s.length := by
    refine count_cut s (0, 0) _ sp.1 (fun i hi => ?_) (fun i hi hl => ?_)
    · simpa using (byF_neg o _ x).1 (sp.2.1 i hi)
    · have := sp.2.2 i hi hl
      simpa using fun e => this ((byF_neg o _ x).2 e)
  rw [hp.countP_eq] at hc
  refine ⟨hc.symm, ?_⟩
  rw [hc]
  rw [Bool.eq_iff_iff]
  simp only [bsOk, decide_eq_true_eq, List.any_eq_true, beq_iff_eq]
  constructor
  · rintro ⟨hk, he⟩
    refine ⟨s[bsr (byF o) s x 0 s.length]?.getD (0, 0), hp.mem_iff.1 ?_, (byF_zero o _ x).1 he⟩
    simp [hk]
  · rintro ⟨y, hy, he⟩
    obtain ⟨i, hi, hiy⟩ := List.getElem_of_mem (hp.mem_iff.2 hy)
    have hK := ocmp_eq.1 he
    have hki : bsr (byF o) s x 0 s.length ≤ i := by
      rcases Nat.lt_or_ge i (bsr (byF o) s x 0 s.length) with h | h
      · have := byF_lt.1 (sp.2.1 i h)
        simp [hi, hiy] at this
        omega
      · exact h
    have hkl : bsr (byF o) s x 0 s.length < s.length := by omega
    refine ⟨hkl, byF_eq.2 ?_⟩
    have hge : ¬ oK o (s[bsr (byF o) s x 0 s.length]?.getD (0, 0)) < oK o x := fun e => sp.2.2 _ (Nat.le_refl _) hkl (byF_lt.2 e)
    have hle : oK o (s[bsr (byF o) s x 0 s.length]?.getD (0, 0)) ≤ oK o y := by
      by_cases e : bsr (byF o) s x 0 s.length = i
      · rw [e]; simp [hi, hiy]
      · have := rises_get hr (show bsr (byF o) s x 0 s.length < i by omega) hi
        simpa [hi, hiy] using this
    omega

/-- alike to one ahead of it -/
def Rep (o : Int) (l : List It) (j : Nat) : Prop := ∃ i, i < j ∧ j < l.length ∧ oK o (l[i]?.getD (0, 0)) = oK o (l[j]?.getD (0, 0))
def nLt (o : Int) (l : List It) (a b : Int) : Prop := oK o (l[a.toNat]?.getD (0, 0)) < oK o (l[b.toNat]?.getD (0, 0)) ∨ (oK o (l[a.toNat]?.getD (0, 0)) = oK o (l[b.toNat]?.getD (0, 0)) ∧ a < b)
theorem upN_pw (n : Nat) : (upN n).Pairwise (· < ·) := by
  unfold upN
  rw [List.pairwise_map]
  exact (List.pairwise_lt_range).imp (fun h => by omega)
theorem nums_pw (o : Int) (l : List It) : (srt (byNo (byF o) l) 1 (upN l.length)).Pairwise (nLt o l) := by
  refine srt_pw (R := nLt o l) (fun a b c h1 h2 => ?_) ?_
  · unfold nLt at *; omega
  · refine (upN_pw l.length).imp (fun {a b} hab => ?_)
    unfold Apt nLt byNo
    refine ⟨fun h => .inl (byF_lt.1 h), fun h => ?_⟩
    have h2 : ¬ oK o (l[b.toNat]?.getD (0, 0)) < oK o (l[a.toNat]?.getD (0, 0)) := fun e => h (byF_lt.2 e)
    omega
theorem mem_reps {α : Type} {f : α → α → Int} (d : α) {xs : List α} {k p : Nat} : p ∈ reps f k xs ↔ ∃ q, p = k + q + 1 ∧ q + 1 < xs.length ∧ f (xs[q]?.getD d) (xs[q + 1]?.getD d) = 0 := by
  fun_induction reps f k xs with
  | case1 k x y t h ih =>
    rw [List.mem_cons, ih]
    constructor
    · rintro (rfl | ⟨q, h1, h2, h3⟩)
      · exact ⟨0, by omega, by simp, by simpa using h⟩
      · exact ⟨q + 1, by omega, by simpa using h2, by simpa using h3⟩
    · rintro ⟨q, h1, h2, h3⟩
      cases q with
      | zero => left; omega
      | succ q => right; exact ⟨q, by omega, by simpa using h2, by simpa using h3⟩
  | case2 k x y t h ih =>
    rw [ih]
    constructor
    · rintro ⟨q, h1, h2, h3⟩
      exact ⟨q + 1, by omega, by simpa using h2, by simpa using h3⟩
    · rintro ⟨q, h1, h2, h3⟩
      cases q with
      | zero => exact absurd (by simpa using h3) h
      | succ q => exact ⟨q, by omega, by simpa using h2, by simpa using h3⟩
  | case3 b a h =>
    constructor
    · intro h; cases h
    · rintro ⟨q, h1, h2, h3⟩
      rcases b with _ | ⟨b1, b⟩
      · simp at h2
      · rcases b with _ | ⟨b2, b⟩
        · simp at h2
        · exact (h _ _ _ rfl).elim
/-- the least of the numbers at these places, or what was there -/
theorem fold_least (ns : List Int) (hn : ∀ p, p < ns.length → 0 ≤ ns[p]?.getD 0) (ps : List Nat) (hp : ∀ p ∈ ps, p < ns.length) (acc : Int) (ha : -1 ≤ acc) :
    (ps.foldl (twS ns) acc = -1 ∧ acc = -1 ∧ ps = []) ∨ (0 ≤ ps.foldl (twS ns) acc ∧ (ps.foldl (twS ns) acc = acc ∨ ∃ p ∈ ps, ps.foldl (twS ns) acc = ns[p]?.getD 0) ∧ (0 ≤ acc → ps.foldl (twS ns) acc ≤ acc) ∧ ∀ p ∈ ps, ps.foldl (twS ns) acc ≤ ns[p]?.getD 0) := by
  induction ps generalizing acc with
  | nil =>
    by_cases h : acc = -1
    · exact .inl ⟨h, h, rfl⟩
    · refine .inr ⟨by simp; omega, .inl rfl, fun _ => Int.le_refl _, fun p hp => by cases hp⟩
  | cons p ps ih =>
    have h0 := hn p (hp p (by simp))
    have hv : 0 ≤ twS ns acc p ∧ (twS ns acc p = acc ∨ twS ns acc p = ns[p]?.getD 0) ∧ twS ns acc p ≤ ns[p]?.getD 0 ∧ (0 ≤ acc → twS ns acc p ≤ acc) := by
      unfold twS
      split <;> omega
    rw [List.foldl_cons]
    rcases ih (fun q hq => hp q (List.mem_cons_of_mem _ hq)) (twS ns acc p) (by omega) with ⟨_, h, _⟩ | ⟨r0, r1, r2, r3⟩
    · omega
    · have r2 := r2 hv.1
      refine .inr ⟨r0, ?_, fun h => by have := hv.2.2.2 h; omega, fun q hq => ?_⟩
      · rcases r1 with e | ⟨q, hq, e⟩
        · rcases hv.2.1 with e2 | e2
          · left; omega
          · right; exact ⟨p, by simp, by omega⟩
        · right; exact ⟨q, List.mem_cons_of_mem _ hq, e⟩
      · rcases List.mem_cons.1 hq with rfl | hq
        · have := hv.2.2.1; omega
        · exact r3 q hq
/-- Twice -/
theorem twice_spec (o : Int) (l : List It) : (tw (byF o) l = -1 ∧ ∀ j, ¬ Rep o l j) ∨ ∃ k : Nat, tw (byF o) l = k ∧ Rep o l k ∧ ∀ j, j < k → ¬ Rep o l j := by
  have hpw := nums_pw o l
  have hpm := srt_perm (byNo (byF o) l) 1 (upN l.length)
  unfold tw
  obtain ⟨ns, hns⟩ : ∃ ns, srt (byNo (byF o) l) 1 (upN l.length) = ns := ⟨_, rfl⟩
  rw [hns] at hpw hpm ⊢
  have hmem : ∀ x ∈ ns, 0 ≤ x ∧ x < (l.length : Int) := fun x hx => upN_mem (hpm.mem_iff.1 hx)
  have hget : ∀ p, p < ns.length → ns[p]?.getD 0 ∈ ns := fun p hp => by simp [hp]
  have hgp : ∀ q p, q < p → p < ns.length → nLt o l (ns[q]?.getD 0) (ns[p]?.getD 0) := fun q p hqp hp => by
    have := List.pairwise_iff_getElem.1 hpw q p (by omega) hp hqp
    simpa [show q < ns.length by omega, hp] using this
  have hps : ∀ p ∈ reps (byNo (byF o) l) 0 ns, p < ns.length := fun p hp => by
    obtain ⟨q, h1, h2, _⟩ := (mem_reps 0).1 hp
    omega
  -- what stands at these places is alike to one ahead of it
  have hA : ∀ p ∈ reps (byNo (byF o) l) 0 ns, Rep o l (ns[p]?.getD 0).toNat := fun p hp => by
    obtain ⟨q, h1, h2, h3⟩ := (mem_reps 0).1 hp
    obtain rfl : p = q + 1 := by omega
    have hl := hgp q (q + 1) (by omega) h2
    have m1 := hmem _ (hget q (by omega))
    have m2 := hmem _ (hget (q + 1) h2)
    have he := byF_eq.1 (show byF o _ _ = 0 from h3)
    refine ⟨(ns[q]?.getD 0).toNat, ?_, by omega, he⟩
    rcases hl with hl | ⟨_, hl⟩ <;> omega
  -- and each such is told
  have hB : ∀ j, Rep o l j → ∃ p ∈ reps (byNo (byF o) l) 0 ns, ns[p]?.getD 0 = (j : Int) := fun j ⟨i, hij, hj, he⟩ => by
    have hin : ∀ t : Nat, t < l.length → ∃ p, p < ns.length ∧ ns[p]?.getD 0 = (t : Int) := fun t ht => by
      have : (t : Int) ∈ ns := hpm.mem_iff.2 (by simp only [upN, List.mem_map, List.mem_range]; exact ⟨t, ht, rfl⟩)
      obtain ⟨p, hp, e⟩ := List.getElem_of_mem this
      exact ⟨p, hp, by simp [hp, e]⟩
    obtain ⟨p, hp, ep⟩ := hin j hj
    obtain ⟨q, hq, eq⟩ := hin i (by omega)
    have hqp : q < p := by
      rcases Nat.lt_trichotomy q p with h | h | h
      · exact h
      · subst h; omega
      · have := hgp p q h hq
        rw [ep, eq] at this
        unfold nLt at this
        simp only [Int.toNat_natCast] at this
        omega
    obtain ⟨r, rfl⟩ : ∃ r, p = r + 1 := ⟨p - 1, by omega⟩
    refine ⟨r + 1, (mem_reps 0).2 ⟨r, by omega, hp, ?_⟩, ep⟩
    have h1 := hgp r (r + 1) (by omega) hp
    rw [ep] at h1
    have h2 : oK o (l[i]?.getD (0, 0)) ≤ oK o (l[(ns[r]?.getD 0).toNat]?.getD (0, 0)) := by
      by_cases e : q = r
      · rw [← e, eq]; simp
      · have := hgp q r (by omega) (by omega)
        rw [eq] at this
        unfold nLt at this
        simp only [Int.toNat_natCast] at this
        omega
    unfold nLt at h1
    simp only [Int.toNat_natCast] at h1
    refine byF_eq.2 ?_
    rw [ep]
    simp only [Int.toNat_natCast]
    omega
  rcases fold_least ns (fun p hp => (hmem _ (hget p hp)).1) (reps (byNo (byF o) l) 0 ns) hps (-1) (by omega) with ⟨h, _, he⟩ | ⟨h0, h1, _, h3⟩
  · refine .inl ⟨h, fun j hj => ?_⟩
    obtain ⟨p, hp, _⟩ := hB j hj
    rw [he] at hp
    cases hp
  · rcases h1 with h1 | ⟨p, hp, h1⟩
    · omega
    · have hr := hA p hp
      refine .inr ⟨(ns[p]?.getD 0).toNat, by omega, hr, fun j hj hrj => ?_⟩
      obtain ⟨p2, hp2, e2⟩ := hB j hrj
      have := h3 p2 hp2
      omega

end Go.Proofs.Ytomieeajmelglaa
