/- ref10.Scan: any text -/
import Derived.Test.YtegokdhmpopggaaDoorXdT
import Derived.Deep.LoopGhost
namespace Go.Proofs.YtegokdhmpopggaaDoor
open Go.RowKit
set_option linter.unusedVariables false

def pend : XS → Nat
  | .stroke => 1
  | .digs l _ h => if h = 0 then 6 - l else 12 - l
  | .second _ => 6
  | .letter _ => 7
  | _ => 0
theorem uEnc_le4 (p : Int) : (uEnc p).length ≤ 4 := by
  unfold uEnc
  repeat' split
  all_goals simp
theorem uEnc_le3 {p : Int} (h : p < 65536) : (uEnc p).length ≤ 3 := by
  unfold uEnc
  repeat' split
  all_goals first | omega | simp
theorem pend_step {σ τ : XS} {c : Int} {u : List Int} (hok : xOk σ) (h : xStep σ c = some (τ, u)) : u.length + pend τ ≤ pend σ + 1 := by
  cases σ with
  | start =>
    change (if c = 34 then some (XS.inn, ([] : List Int)) else none) = _ at h
    split at h <;> cases h
    simp [pend]
  | inn =>
    change xIn c = _ at h
    unfold xIn at h
    repeat' split at h
    all_goals cases h
    all_goals simp [pend]
  | stroke =>
    change xStr c = _ at h
    unfold xStr at h
    repeat' split at h
    all_goals cases h
    all_goals simp [pend]
  | digs l n hh =>
    change xDgs l n hh c = _ at h
    unfold xDgs at h
    obtain ⟨h1, h2, h3, h4, h5, h6, h7, h8⟩ := hok
    have hd := xDig_lt c
    split at h
    · cases h
    split at h
    · cases h
    split at h
    · cases h
      simp only [pend, List.length_nil]
      split <;> omega
    · have hl : l = 1 := by omega
      subst hl
      injection h with h
      unfold xEnd at h
      split at h
      · cases h
        have := uEnc_le4 (65536 + (hh - 55296) * 1024 + (16 * n + xDig c) - 56320)
        simp only [pend]
        rw [if_neg (by omega)]
        omega
      · split at h
        · cases h
          simp only [pend, List.length_nil]
          rw [if_pos (by omega)]
          omega
        · cases h
          have := uEnc_le3 (p := 16 * n + xDig c) (by omega)
          simp only [pend]
          rw [if_pos (by omega)]
          omega
  | second hh =>
    change (if c = 92 then some (XS.letter hh, ([] : List Int)) else none) = _ at h
    split at h <;> cases h
    simp [pend]
  | letter hh =>
    change (if c = 117 then some (XS.digs 4 0 hh, ([] : List Int)) else none) = _ at h
    split at h <;> cases h
    have : hh ≠ 0 := by have := hok.1; omega
    simp [pend, this]
  | byts l lo mo =>
    change xByt l lo mo c = _ at h
    unfold xByt at h
    split at h
    · cases h
    · cases h
      split <;> simp [pend]
  | fin => cases h
theorem xrep_7 {τ : XS} {lm l n h lo mo : Int} (hr : XRep τ lm l n h lo mo) (hf : τ ≠ .fin) : (lm == 7) = false := by
  cases τ <;> simp only [XRep] at hr <;> first | exact absurd rfl hf | (rw [hr.1]; rfl) | (rw [hr]; rfl)
set_option maxRecDepth 100000 in
theorem dstep_start {w : World} {B p : Nat} {tv : Value} {es : List Int} {d : Dc} {c : Int} (H : DcS w B p tv es d) (hlm : d.lm = 0) (hh : d.h = 0) : StepC w B p tv es d .start c := by
  have HS := hide H
  obtain ⟨c3, c4, c5, c6, c7, c8, c9, f3, f4, f5, f6, f7, f8, f9⟩ := df_of H.blk
  rw [hlm] at c3
  have HHH := hide hh
  clear H hh hlm
  unfold StepC
  by_cases k : c = 34
  · subst k
    go_enter Tryd.func27, Tryd.ntmps27
    go_wp2
    go_ret
    exact ⟨true, tv, es, 1, d.l, d.n, d.h, d.lo, d.mo, rfl, HS.out.lm 1, (Fr.refl _ _ _).setP _, Or.inl ⟨rfl, .inn, [], rfl, by simp, rfl, HHH.out⟩⟩
  · have k' : (c == 34) = false := beq_eq_false_iff_ne.2 k
    have HX := hide (show xStep .start c = none from if_neg k)
    clear k
    go_enter Tryd.func27, Tryd.ntmps27
    go_wp2
    go_ret
    exact ⟨false, tv, es, 1, d.l, d.n, d.h, d.lo, d.mo, rfl, HS.out.lm 1, (Fr.refl _ _ _).setP _, Or.inr ⟨rfl, HX.out⟩⟩
theorem dStepA {w : World} {B p : Nat} {tv : Value} {es : List Int} {d : Dc} {c : Int} {σ : XS} (H : DcS w B p tv es d) (hr : XRep σ d.lm d.l d.n d.h d.lo d.mo) (hok : xOk σ) (h2 : σ ≠ .fin) (c0 : 0 ≤ c) (c1 : c < 256) (hl : es.length + 4 ≤ 140737488355328) : StepC w B p tv es d σ c := by
  by_cases h1 : σ = .start
  · subst h1
    exact dstep_start H hr.1 hr.2
  · exact dStep H hr hok h1 h2 c0 c1 hl
/-- a list of one's own as a text -/
theorem conv_own {w : World} {B : Nat} {tv : Value} {es : List Int} (h : w.ownsRow B 5 1 tv es.length (es.map (Value.int .u8))) : (convert 48 9 tv).run Tryd.prog w = .ok (.string (strOfNums es)) w := by
  rcases h.2 with ⟨rfl, h0⟩ | ⟨g, cap, cur, rfl, _⟩
  · have : es = [] := List.eq_nil_of_length_eq_zero h0
    subst this
    exact run_convert_bytes_nil w 48 5 Tryd.underlying48 Tryd.underlying5 0 0 9 Tryd.underlying9
  · refine run_convert_bytes_arg w 48 5 Tryd.underlying48 Tryd.underlying5 g 0 es.length cap es rfl (fun i hi => ?_) 9 Tryd.underlying9
    have := h.cells (g := g) rfl i (.int .u8 (es.getD i 0)) (by simp [hi])
    rwa [Addr.add_lit] at this
theorem results_ttc {fn : Func} {t1 t2 p : Tmp} {ty : TypeId} (h : fn.results = #[.tmp t1, .tmp t2, .cell p ty]) (tmps : Array Value) (P : Program) (w : World) :
    (results fn tmps).run P w = (((asAddr (tmps.getD p undef)).run P w).andThen fun a w₁ => (loadVar ty a).run P w₁).andThen fun v w₂ => .ok (.tuple #[tmps.getD t1 undef, tmps.getD t2 undef, v]) w₂ := by
  simp only [results, h]
  simp [Sem.run_bind, Result.andThen]
  cases (asAddr (tmps[p]?.getD undef)).run P w with
  | ok a w1 => cases (loadVar ty a).run P w1 <;> rfl
  | halt a w1 => rfl
def fltV (c k : Int) : Value := .agg #[.int .i64 c, .int .i64 k, .string ⟨#[]⟩]
/-- what the document's Scan tells -/
def RScan (ls : List Int) (at_ : Int) (e : Ending) : Prop :=
  (¬ (0 ≤ at_ ∧ at_ ≤ ls.length) ∧ e = .returned (.tuple #[.string ⟨#[]⟩, .int .i64 0, fltV 1 0]))
  ∨ (∃ k : Nat, at_ = k ∧ k ≤ ls.length ∧ ((∃ t n, xRun .start (ls.drop k) [] k = .ok t n ∧ e = .returned (.tuple #[.string (strOfNums t), .int .i64 n, fltV 0 0])) ∨ (∃ n : Nat, xRun .start (ls.drop k) [] k = .bad n ∧ e = .returned (.tuple #[.string ⟨#[]⟩, .int .i64 0, fltV 3 n]))))
def RSc (w : World) (ls : List Int) (at_ : Int) (e : Ending) (w' : World) : Prop := RScan ls at_ e ∧ Below w.heap.size w w'
set_option maxRecDepth 100000 in
set_option maxHeartbeats 4000000 in
theorem rscan_arg {w : World} {s : ByteArray} {ls : List Int} {at_ : Int} (hs : s = strOfNums ls) (hl : ls.length ≤ 140737488351232) (hn : ¬ (0 ≤ at_ ∧ at_ ≤ ls.length)) :
    Calls Tryd.prog 12 #[.string s, .int .i64 at_] w (RSc w ls at_) := by
  have hsz : s.size = ls.length := by rw [hs, strOfNums_size]
  have HF := hide (show RScan ls at_ (.returned (.tuple #[.string ⟨#[]⟩, .int .i64 0, fltV 1 0])) from Or.inl ⟨hn, rfl⟩)
  by_cases h0 : at_ < 0
  · clear hn hs hl
    go_enter Tryd.func12, Tryd.ntmps12
    go_wp2
    refine bodyPost_ret (v := .tuple #[.string ⟨#[]⟩, .int .i64 0, fltV 1 0]) (by rw [results_ttc rfl]; simp only [fltV]; go_simp) rfl ⟨HF.out, (Below.refl _ _).alloc (Nat.le_refl _) _⟩
  · obtain ⟨L, hL⟩ : ∃ L, ls.length = L := ⟨_, rfl⟩
    rw [hL] at hn hsz
    have h1 : (L : Int) < at_ := by omega
    clear hn hs hl hL
    go_enter Tryd.func12, Tryd.ntmps12
    go_wp2
    refine bodyPost_ret (v := .tuple #[.string ⟨#[]⟩, .int .i64 0, fltV 1 0]) (by rw [results_ttc rfl]; simp only [fltV]; go_simp) rfl ⟨HF.out, (Below.refl _ _).alloc (Nat.le_refl _) _⟩

end Go.Proofs.YtegokdhmpopggaaDoor
