/- bytes as digits and letters, in plain numbers. No Go text is met here. -/
import Derived.Test.YtlpddfocihlbcaaGreatDoorUMath
import Derived.Test.YtlpddfocihlbcaaGreatDoorMath
namespace Go.Proofs.YtlpddfocihlbcaaGreatDoor
set_option linter.unusedVariables false

def bDigs : List Int := [48, 49, 50, 51, 52, 53, 54, 55, 56, 57, 97, 98, 99, 100, 101, 102]
def bLets : List Int := [65, 66, 67, 68, 69, 70, 71, 72, 73, 74, 75, 76, 77, 78, 79, 80, 81, 82, 83, 84, 85, 86, 87, 88, 89, 90, 97, 98, 99, 100, 101, 102, 103, 104, 105, 106, 107, 108, 109, 110, 111, 112, 113, 114, 115, 116, 117, 118, 119, 120, 121, 122, 48, 49, 50, 51, 52, 53, 54, 55, 56, 57, 45, 95]
def bDig (n : Int) : Int := Nt.lb bDigs n.toNat
def bLet (n : Int) : Int := Nt.lb bLets n.toNat
theorem bDig_no {n : Int} (h0 : 0 ≤ n) (h1 : n < 16) : (bDigs.idxOf (bDig n) : Int) = n := by
  have h : ∀ k : Fin 16, bDigs.idxOf (bDig (k.val : Int)) = k.val := by decide +kernel
  have := h ⟨n.toNat, by omega⟩
  simp only [Int.toNat_of_nonneg h0] at this
  omega
theorem bLet_no {n : Int} (h0 : 0 ≤ n) (h1 : n < 64) : (bLets.idxOf (bLet n) : Int) = n := by
  have h : ∀ k : Fin 64, bLets.idxOf (bLet (k.val : Int)) = k.val := by decide +kernel
  have := h ⟨n.toNat, by omega⟩
  simp only [Int.toNat_of_nonneg h0] at this
  omega
theorem bDig_mem {n : Int} (h0 : 0 ≤ n) (h1 : n < 16) : bDig n ∈ bDigs := by
  apply List.idxOf_lt_length_iff.1
  have := bDig_no h0 h1
  show _ < 16
  omega
theorem bLet_mem {n : Int} (h0 : 0 ≤ n) (h1 : n < 64) : bLet n ∈ bLets := by
  apply List.idxOf_lt_length_iff.1
  have := bLet_no h0 h1
  show _ < 64
  omega
theorem bDig_inj {m n : Int} (h0 : 0 ≤ m) (h1 : m < 16) (g0 : 0 ≤ n) (g1 : n < 16) (h : bDig m = bDig n) : m = n := by
  rw [← bDig_no h0 h1, h, bDig_no g0 g1]
theorem bLet_inj {m n : Int} (h0 : 0 ≤ m) (h1 : m < 64) (g0 : 0 ≤ n) (g1 : n < 64) (h : bLet m = bLet n) : m = n := by
  rw [← bLet_no h0 h1, h, bLet_no g0 g1]
theorem lb_idxOf {al : List Int} {c : Int} (h : c ∈ al) : Nt.lb al (al.idxOf c) = c := by
  have h2 := List.idxOf_lt_length_iff.2 h
  simp [Nt.lb, List.getD, h2]
/-- digits in their order -/
theorem bDig_lt {m n : Int} (h0 : 0 ≤ m) (h1 : m < n) (g1 : n < 16) : bDig m < bDig n := by
  have h : ∀ a b : Fin 16, a.val < b.val → bDig (a.val : Int) < bDig (b.val : Int) := by decide +kernel
  have := h ⟨m.toNat, by omega⟩ ⟨n.toNat, by omega⟩ (by show m.toNat < n.toNat; omega)
  simp only [Int.toNat_of_nonneg h0, Int.toNat_of_nonneg (show 0 ≤ n by omega)] at this
  exact this
theorem bDig_byt (n : Int) : 0 ≤ bDig n ∧ bDig n < 128 := by
  unfold bDig
  by_cases h : n.toNat < 16
  · have h2 : ∀ k : Fin 16, 0 ≤ Nt.lb bDigs k.val ∧ Nt.lb bDigs k.val < 128 := by decide +kernel
    exact h2 ⟨n.toNat, h⟩
  · have : Nt.lb bDigs n.toNat = 0 := by
      unfold Nt.lb
      rw [List.getD_eq_getElem?_getD, List.getElem?_eq_none (by show 16 ≤ _; omega)]; rfl
    omega
theorem bLet_byt (n : Int) : 0 ≤ bLet n ∧ bLet n < 128 := by
  unfold bLet
  by_cases h : n.toNat < 64
  · have h2 : ∀ k : Fin 64, 0 ≤ Nt.lb bLets k.val ∧ Nt.lb bLets k.val < 128 := by decide +kernel
    exact h2 ⟨n.toNat, h⟩
  · have : Nt.lb bLets n.toNat = 0 := by
      unfold Nt.lb
      rw [List.getD_eq_getElem?_getD, List.getElem?_eq_none (by show 64 ≤ _; omega)]; rfl
    omega

def bHex : List Int → List Int
  | [] => []
  | x :: r => bDig (x / 16) :: bDig (x % 16) :: bHex r
theorem bHex_len (es : List Int) : (bHex es).length = 2 * es.length := by
  induction es with
  | nil => rfl
  | cons x r ih => simp only [bHex, List.length_cons, ih]; omega
theorem bHex_app (a b : List Int) : bHex (a ++ b) = bHex a ++ bHex b := by
  induction a with
  | nil => rfl
  | cons x r ih => simp only [bHex, List.cons_append, ih]
theorem bHex_byt (es : List Int) : ∀ x ∈ bHex es, 0 ≤ x ∧ x < 128 := by
  induction es with
  | nil => intro x hx; cases hx
  | cons y r ih =>
    intro x hx
    simp only [bHex, List.mem_cons] at hx
    rcases hx with rfl | rfl | hx
    · exact bDig_byt _
    · exact bDig_byt _
    · exact ih x hx
theorem bHex_mem {es : List Int} (h : uByt es) : ∀ x ∈ bHex es, x ∈ bDigs := by
  induction es with
  | nil => intro x hx; cases hx
  | cons y r ih =>
    intro x hx
    have hy := h y (by simp)
    simp only [bHex, List.mem_cons] at hx
    rcases hx with rfl | rfl | hx
    · exact bDig_mem (by omega) (by omega)
    · exact bDig_mem (by omega) (by omega)
    · exact ih (fun z hz => h z (by simp [hz])) x hx
theorem bHex_inj {a b : List Int} (ha : uByt a) (hb : uByt b) (h : bHex a = bHex b) : a = b := by
  induction a generalizing b with
  | nil =>
    cases b with
    | nil => rfl
    | cons y s => simp [bHex] at h
  | cons x r ih =>
    cases b with
    | nil => simp [bHex] at h
    | cons y s =>
      simp only [bHex, List.cons.injEq] at h
      have hx := ha x (by simp)
      have hy := hb y (by simp)
      have e1 := bDig_inj (by omega) (by omega) (by omega) (by omega) h.1
      have e2 := bDig_inj (by omega) (by omega) (by omega) (by omega) h.2.1
      have e3 : x = y := by omega
      rw [e3, ih (fun z hz => ha z (by simp [hz])) (fun z hz => hb z (by simp [hz])) h.2.2]
/-- what Hex tells is in the order of the bytes -/
theorem bHex_lt {a b : List Int} (ha : uByt a) (hb : uByt b) : bHex a < bHex b ↔ a < b := by
  induction a generalizing b with
  | nil =>
    cases b with
    | nil => simp [bHex]
    | cons y s => simp [bHex]
  | cons x r ih =>
    cases b with
    | nil => simp [bHex]
    | cons y s =>
      have hx := ha x (by simp)
      have hy := hb y (by simp)
      have ih := ih (b := s) (fun z hz => ha z (by simp [hz])) (fun z hz => hb z (by simp [hz]))
      simp only [bHex, List.cons_lt_cons_iff, ih]
      rcases Int.lt_trichotomy (x / 16) (y / 16) with h | h | h
      · have := bDig_lt (by omega) h (by omega)
        constructor
        · intro _; left; omega
        · intro _; left; exact this
      · rw [h]
        rcases Int.lt_trichotomy (x % 16) (y % 16) with g | g | g
        · have := bDig_lt (by omega) g (by omega)
          constructor
          · intro _; left; omega
          · intro _; right; exact ⟨rfl, .inl this⟩
        · have e : x = y := by omega
          rw [e]
          simp
        · have := bDig_lt (by omega) g (by omega)
          constructor
          · rintro (k | ⟨_, k | ⟨k, _⟩⟩) <;> omega
          · rintro (k | ⟨k, _⟩) <;> omega
      · have := bDig_lt (by omega) h (by omega)
        constructor
        · rintro (k | ⟨k, _⟩) <;> omega
        · rintro (k | ⟨k, _⟩) <;> omega

def b64 : List Int → List Int
  | [] => []
  | [a] => [bLet (a / 4), bLet (a % 4 * 16)]
  | [a, b] => [bLet (a / 4), bLet (a % 4 * 16 + b / 16), bLet (b % 16 * 4)]
  | a :: b :: c :: r => bLet (a / 4) :: bLet (a % 4 * 16 + b / 16) :: bLet (b % 16 * 4 + c / 64) :: bLet (c % 64) :: b64 r
theorem b64_len (es : List Int) : (b64 es).length = (8 * es.length + 5) / 6 := by
  induction es using b64.induct with
  | case1 => rfl
  | case2 a => simp [b64]
  | case3 a b => simp [b64]
  | case4 a b c r ih => simp only [b64, List.length_cons, ih]; omega
theorem b64_app {a : List Int} (b : List Int) (h : a.length % 3 = 0) : b64 (a ++ b) = b64 a ++ b64 b := by
  induction a using b64.induct with
  | case1 => rfl
  | case2 a => simp at h
  | case3 a b => simp at h
  | case4 x y z r ih => simp only [List.cons_append, b64, ih (by simp only [List.length_cons] at h; omega)]
theorem b64_byt (es : List Int) : ∀ x ∈ b64 es, 0 ≤ x ∧ x < 128 := by
  induction es using b64.induct with
  | case1 => intro x hx; cases hx
  | case2 a => intro x hx; simp only [b64, List.mem_cons, List.not_mem_nil, or_false] at hx; rcases hx with rfl | rfl <;> exact bLet_byt _
  | case3 a b => intro x hx; simp only [b64, List.mem_cons, List.not_mem_nil, or_false] at hx; rcases hx with rfl | rfl | rfl <;> exact bLet_byt _
  | case4 a b c r ih => intro x hx; simp only [b64, List.mem_cons] at hx; rcases hx with rfl | rfl | rfl | rfl | hx; iterate 4 exact bLet_byt _
                        exact ih x hx
theorem b64_mem {es : List Int} (h : uByt es) : ∀ x ∈ b64 es, x ∈ bLets := by
  induction es using b64.induct with
  | case1 => intro x hx; cases hx
  | case2 a =>
    have ha := h a (by simp)
    intro x hx; simp only [b64, List.mem_cons, List.not_mem_nil, or_false] at hx; rcases hx with rfl | rfl <;> exact bLet_mem (by omega) (by omega)
  | case3 a b =>
    have ha := h a (by simp)
    have hb := h b (by simp)
    intro x hx; simp only [b64, List.mem_cons, List.not_mem_nil, or_false] at hx; rcases hx with rfl | rfl | rfl <;> exact bLet_mem (by omega) (by omega)
  | case4 a b c r ih =>
    have ha := h a (by simp)
    have hb := h b (by simp)
    have hc := h c (by simp)
    intro x hx; simp only [b64, List.mem_cons] at hx; rcases hx with rfl | rfl | rfl | rfl | hx
    iterate 4 exact bLet_mem (by omega) (by omega)
    exact ih (fun z hz => h z (by simp [hz])) x hx
theorem uByt.of_cons {x : Int} {r : List Int} (h : uByt (x :: r)) : (0 ≤ x ∧ x < 256) ∧ uByt r := ⟨h x (by simp), fun z hz => h z (by simp [hz])⟩
theorem b64_inj {a b : List Int} (ha : uByt a) (hb : uByt b) (h : b64 a = b64 b) : a = b := by
  have hl : a.length = b.length := by
    have := congrArg List.length h
    rw [b64_len, b64_len] at this
    omega
  induction a using b64.induct generalizing b with
  | case1 => exact (List.eq_nil_of_length_eq_zero hl.symm).symm
  | case2 x =>
    match b, hl with
    | [y], _ =>
      simp only [b64, List.cons.injEq] at h
      have hx := ha.of_cons.1
      have hy := hb.of_cons.1
      have e1 := bLet_inj (by omega) (by omega) (by omega) (by omega) h.1
      have e2 := bLet_inj (by omega) (by omega) (by omega) (by omega) h.2.1
      rw [show x = y by omega]
  | case3 x x2 =>
    match b, hl with
    | [y, y2], _ =>
      simp only [b64, List.cons.injEq] at h
      have hx := ha.of_cons.1
      have hy := hb.of_cons.1
      have hx2 := ha.of_cons.2.of_cons.1
      have hy2 := hb.of_cons.2.of_cons.1
      have e1 := bLet_inj (by omega) (by omega) (by omega) (by omega) h.1
      have e2 := bLet_inj (by omega) (by omega) (by omega) (by omega) h.2.1
      have e3 := bLet_inj (by omega) (by omega) (by omega) (by omega) h.2.2.1
      rw [show x = y by omega, show x2 = y2 by omega]
  | case4 x x2 x3 r ih =>
    match b, hl with
    | y :: y2 :: y3 :: s, hl =>
      simp only [b64, List.cons.injEq] at h
      have hx := ha.of_cons.1
      have hy := hb.of_cons.1
      have hx2 := ha.of_cons.2.of_cons.1
      have hy2 := hb.of_cons.2.of_cons.1
      have hx3 := ha.of_cons.2.of_cons.2.of_cons.1
      have hy3 := hb.of_cons.2.of_cons.2.of_cons.1
      have e1 := bLet_inj (by omega) (by omega) (by omega) (by omega) h.1
      have e2 := bLet_inj (by omega) (by omega) (by omega) (by omega) h.2.1
      have e3 := bLet_inj (by omega) (by omega) (by omega) (by omega) h.2.2.1
      have e4 := bLet_inj (by omega) (by omega) (by omega) (by omega) h.2.2.2.1
      rw [show x = y by omega, show x2 = y2 by omega, show x3 = y3 by omega, ih ha.of_cons.2.of_cons.2.of_cons.2 hb.of_cons.2.of_cons.2.of_cons.2 h.2.2.2.2 (by simp only [List.length_cons] at hl; omega)]
theorem b64_four (es : List Int) : (b64 es).take 4 = b64 (es.take 3) ∧ (b64 es).drop 4 = b64 (es.drop 3) := by
  cases es using b64.induct with
  | case1 => exact ⟨rfl, rfl⟩
  | case2 a => exact ⟨rfl, rfl⟩
  | case3 a b => exact ⟨rfl, rfl⟩
  | case4 a b c r => constructor <;> simp [b64]
theorem b64_drop (es : List Int) (k : Nat) : (b64 es).drop (4 * k) = b64 (es.drop (3 * k)) := by
  induction k with
  | zero => simp
  | succ k ih =>
    rw [show 4 * (k + 1) = 4 * k + 4 by omega, ← List.drop_drop, ih, (b64_four _).2, List.drop_drop, show 3 * k + 3 = 3 * (k + 1) by omega]
/-- the bytes of which Hex, Base64 tell a text -/
def HexOf (s es : List Int) : Prop := uByt es ∧ bHex es = s
def SixOf (s es : List Int) : Prop := uByt es ∧ b64 es = s
theorem HexOf.uniq {s a b : List Int} (h : HexOf s a) (g : HexOf s b) : a = b := bHex_inj h.1 g.1 (h.2.trans g.2.symm)
theorem SixOf.uniq {s a b : List Int} (h : SixOf s a) (g : SixOf s b) : a = b := b64_inj h.1 g.1 (h.2.trans g.2.symm)
theorem hex_odd {s es : List Int} (h : s.length % 2 = 1) : ¬ HexOf s es := fun k => by
  have := bHex_len es
  rw [k.2] at this
  omega
theorem six_lone {s es : List Int} (h : s.length % 4 = 1) : ¬ SixOf s es := fun k => by
  have := b64_len es
  rw [k.2] at this
  omega
theorem hex_bad {s es : List Int} {c : Int} (h : c ∈ s) (hc : c ∉ bDigs) : ¬ HexOf s es := fun k => hc (bHex_mem k.1 c (k.2 ▸ h))
theorem six_bad {s es : List Int} {c : Int} (h : c ∈ s) (hc : c ∉ bLets) : ¬ SixOf s es := fun k => hc (b64_mem k.1 c (k.2 ▸ h))

end Go.Proofs.YtlpddfocihlbcaaGreatDoor
