/- errors.As of errors that are built of nodes -/
import Derived.Test.YtbkgphglojjllaaDoorFAsT
namespace Go.Proofs.YtbkgphglojjllaaDoor
open Go.RowKit Go.Extern.Stop Go.Stop Go.Extern
set_option linter.unusedVariables false

set_option maxHeartbeats 4000000 in
set_option maxRecDepth 100000 in
theorem As_fd {w : World} {u : TypeId} {pv : Value} {x : Nd} {r : Option (Option Addr)} (hg : w.cell? ⟨11, 0, none⟩ = some (.iface 103 (.agg #[.pointer (some ⟨16, 27, none⟩)]))) (hF : FdR w (.iface u pv) x r) :
    Calls Tryd.prog 21 #[.iface u pv, .iface 43 (.pointer (some ⟨w.heap.size, 0, none⟩))] (w.alloc (.cells #[.pointer none] 41)) fun ev w' => ev = .returned (.bool r.isSome) ∧ Below w.heap.size w w' ∧ w'.cell? ⟨w.heap.size, 0, none⟩ = some (.pointer (r.getD none)) := by
  have hgl : 11 < w.heap.size := by
    rcases Nat.lt_or_ge 11 w.heap.size with h | h
    · exact h
    · simp [World.cell?, Array.getElem?_eq_none h] at hg
  have hB0 : Below w.heap.size w (w.alloc (.cells #[.pointer none] 41)) := (Below.refl _ _).alloc (Nat.le_refl _) _
  obtain ⟨t, ht⟩ : ∃ t : Addr, t = ⟨w.heap.size, 0, none⟩ := ⟨_, rfl⟩
  have htb : t.block = w.heap.size := by rw [ht]
  have ht0 : (w.alloc (.cells #[.pointer none] 41)).cell? t = some (.pointer none) := by rw [ht]; simp
  have hf0 : (w.alloc (.cells #[.pointer none] 41)).frozen? t = false := by rw [ht]; exact Lib.frozen_of_heap (heap_alloc_new w _) 0
  have hz : (w.alloc (.cells #[.pointer none] 41)).heap.size = w.heap.size + 1 := by simp
  have hg0 : (w.alloc (.cells #[.pointer none] 41)).cell? ⟨11, 0, none⟩ = some (.iface 103 (.agg #[.pointer (some ⟨16, 27, none⟩)])) := by
    rw [World.cell?_alloc_lt _ _ ⟨11, 0, none⟩ hgl]; exact hg
  rw [← ht]
  have HT := hide ht
  have HB0 := hide hB0
  clear ht hB0 hg
  generalize w.alloc (.cells #[.pointer none] 41) = W at *
  have HZ := hide hz
  have h6 := @run_callFunc_extern Tryd.prog 43 _ (fun args => ReflectliteValue.unpack (args.getD 0 (.tuple #[]))) Tryd.func43 (by kernel_rfl) (by kernel_rfl) (by kernel_rfl) (by kernel_rfl)
  have h7 := @run_callFunc_extern Tryd.prog 44 _ (ReflectliteValue.methodAny (ReflectliteValue.valueError "reflectlite.Value.Type" 0) (fun t _ _ _ => ReflectliteType.toType t)) Tryd.func44 (by kernel_rfl) (by kernel_rfl) (by kernel_rfl) (by kernel_rfl)
  have h8 := @run_callFunc_extern Tryd.prog 45 _ (ReflectliteValue.method (ReflectliteValue.valueError "reflectlite.Value.IsNil" 0) ReflectliteValue.isNil) Tryd.func45 (by kernel_rfl) (by kernel_rfl) (by kernel_rfl) (by kernel_rfl)
  have h27 := @run_callFunc_extern Tryd.prog 91 _ (ReflectliteType.abiMethod fun t => do pure (.int .u8 (← Rtype.kind t))) Tryd.func91 (by kernel_rfl) (by kernel_rfl) (by kernel_rfl) (by kernel_rfl)
  have h37 := @run_callFunc_extern Tryd.prog 109 _ (ReflectliteType.method ReflectliteType.elem) Tryd.func109 (by kernel_rfl) (by kernel_rfl) (by kernel_rfl) (by kernel_rfl)
  have h38 := @run_callFunc_extern Tryd.prog 110 _ (ReflectliteType.relation "Implements" ReflectliteType.implements_) Tryd.func110 (by kernel_rfl) (by kernel_rfl) (by kernel_rfl) (by kernel_rfl)
  have f6 := aValueOf
  have f7 := aType
  have mK := aMethodKind
  have mE := aMethodElem
  have mI := aMethodImplements
  have k27 := aKind2
  have k25 := aKind1
  have e27 := aElem
  have i25 := aImplements
  have n8 := aIsNil ⟨W.heap.size, 0, none⟩ t ((W.alloc (.cells #[.pointer (some t)] 43)).alloc (.cells #[.pointer (some ⟨16, 43, none⟩), .pointer (some ⟨W.heap.size, 0, none⟩), .int .u64 150] 86)) (by simp)
  have hlt : 11 < W.heap.size := by omega
  have hg2 : ((W.alloc (.cells #[.pointer (some t)] 43)).alloc (.cells #[.pointer (some ⟨16, 43, none⟩), .pointer (some ⟨W.heap.size, 0, none⟩), .int .u64 150] 86)).cell? ⟨11, 0, none⟩ = some (.iface 103 (.agg #[.pointer (some ⟨16, 27, none⟩)])) := by
    rw [World.cell?_alloc_lt _ _ ⟨11, 0, none⟩ (by simp; omega), World.cell?_alloc_lt _ _ ⟨11, 0, none⟩ hlt]; exact hg0
  have htl : t.block < W.heap.size := by omega
  have KW := hide ((bel_alloc13 W (.cells #[.pointer (some t)] 43)).trans ((bel_alloc13 _ (.cells #[.pointer (some ⟨16, 43, none⟩), .pointer (some ⟨W.heap.size, 0, none⟩), .int .u64 150] 86)).mono (by simp)))
  have TG := hide (show Tgt ((W.alloc (.cells #[.pointer (some t)] 43)).alloc (.cells #[.pointer (some ⟨16, 43, none⟩), .pointer (some ⟨W.heap.size, 0, none⟩), .int .u64 150] 86)) t W.heap.size from (⟨by
      rw [World.cell?_alloc_lt _ _ ⟨W.heap.size, 0, none⟩ (by simp)]; simp, by simp; omega, by
      rw [KW.out.cell htl]; exact ht0, by
      have := hf0
      simp only [World.frozen?] at this ⊢
      rw [KW.out.block _ htl]; exact this, Nat.lt_of_lt_of_le htl KW.out.size⟩ : Tgt _ _ _))
  have HFF := hide (hF.far (HB0.out.trans (KW.out.mono (by have := HZ.out; omega))))
  have HTL := hide htl
  have HTB := hide htb
  clear hz htb hF
  go_enter Tryd.func21, Tryd.ntmps21
  go_wp2_with fail
  refine (as_all _ x (Nat.le_refl _) _ u pv r t W.heap.size HFF.out TG.out).mono ?_
  rintro e w9 hp
  have KA := hide (HB0.out.trans (KW.out.mono (by have := HZ.out; omega)))
  generalize ((W.alloc (.cells #[.pointer (some t)] 43)).alloc (.cells #[.pointer (some ⟨16, 43, none⟩), .pointer (some ⟨W.heap.size, 0, none⟩), .int .u64 150] 86)) = W2 at *
  clear h6 h7 h8 h27 h37 h38 f6 f7 mK mE mI k27 k25 e27 i25 n8 hg2 ht0 hf0 hg0
  rcases hp with ⟨rfl, rfl, hb⟩ | ⟨p, w1, rfl, rfl, hb, rfl⟩
  · have KB := hide (KA.out.trans (hb.mono KA.out.size))
    have HC := hide ((hb.cell TG.out.tlt).trans TG.out.cell)
    clear hb
    go_wp2
    go_ret
    exact ⟨rfl, KB.out, HC.out⟩
  · have KB := hide ((KA.out.trans (hb.mono KA.out.size)).setCell (p := t) (Nat.le_of_eq HTB.out.symm) (.pointer p))
    have HC := hide (World.cell?_setCell_same (w := w1) (u := .pointer none) t (.pointer p) ((hb.cell TG.out.tlt).trans TG.out.cell))
    clear hb
    go_wp2
    go_ret
    exact ⟨rfl, KB.out, HC.out⟩
theorem asIs_bt {w : World} {a : Nat → Addr} {u : TypeId} {p : Value} {x : Nd} (hH : Hnd w) (hB : Bt w a (.iface u p) x) : ∃ r, AsIs w u p r ∧ Told w r (ndO x) := by
  obtain ⟨r, h1, h2⟩ := fd_of_bt _ x (Nat.le_refl _) _ hB
  exact ⟨r, fun w' hb => As_fd (hH.below hb) (h1.far hb), h2.told⟩
theorem er_bt {w : World} {a : Nat → Addr} {v : Value} {x : Nd} (hS : Snt w a) (hH : Hnd w) (hB : Bt w a v x) (hn : ndNil x = false) : Er w a v (fun i => ndB i x) (ndO x) := by
  rcases hB.iface with ⟨_, h⟩ | ⟨u, p, rfl, _⟩
  · rw [h] at hn; cases hn
  · obtain ⟨r, h1, h2⟩ := asIs_bt hH hB
    exact ⟨u, p, r, rfl, errIs_bt hS hB, h1, h2⟩

end Go.Proofs.YtbkgphglojjllaaDoor
