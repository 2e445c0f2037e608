/- errors as they are built, with the blocks that they lie in -/
import Derived.Test.YtbkgphglojjllaaDoorFAsB
namespace Go.Proofs.YtbkgphglojjllaaDoor
open Go.RowKit
set_option linter.unusedVariables false

inductive BtG (w : World) (a : Nat → Addr) (G : Nat → Prop) : Value → Nd → Prop
  | nil (x : Nd) (hk : ndNil x = true) : BtG w a G .nilIface x
  | api (x : Nd) (m : Nat) (hk : x.kind = 1) (hm : m < 11) (hc : x.code = (m : Int) + 1) : BtG w a G (.iface 95 (.pointer (some (a m)))) x
  | other (x : Nd) (g : Nat) (s : ByteArray) (hk : x.kind = 2) (hG : G g) (hg : w.heap[g]? = some (.cells #[.string s] 97 (0, 0))) (hne : ∀ i, i < 12 → (a i).block ≠ g) : BtG w a G (.iface 95 (.pointer (some ⟨g, 0, none⟩))) x
  | flt (x : Nd) (g : Nat) (e : Value) (hk : x.kind = 3) (hG : G g) (hg : FltAt w g e x.place x.path) (h0 : x.kids = [] → e = .nilIface) (h1 : ∀ h : 0 < x.kids.length, BtG w a G e x.kids[0]) : BtG w a G (.iface 41 (.pointer (some ⟨g, 0, none⟩))) x
  | wraps (x : Nd) (g : Nat) (e : Value) (hk : x.kind = 4) (hG : G g) (hg : w.heap[g]? = some (.cells #[e] 69 (0, 0))) (h0 : x.kids = [] → e = .nilIface) (h1 : ∀ h : 0 < x.kids.length, BtG w a G e x.kids[0]) : BtG w a G (.iface 67 (.pointer (some ⟨g, 0, none⟩))) x
  | many (x : Nd) (g : Nat) (ao : Option Addr) (cap : Nat) (vs : Nat → Value) (hk : x.kind = 5) (hG : G g) (hg : w.heap[g]? = some (.cells #[.slice ao x.kids.length cap] 72 (0, 0))) (hl : x.kids.length ≤ 10000)
      (hx : 0 < x.kids.length → ∃ b, ao = some ⟨b, 0, none⟩ ∧ b < w.heap.size ∧ G b ∧ (∀ i, i < x.kids.length → w.cell? ⟨b, i, none⟩ = some (vs i)) ∧ ∃ cs q, w.heap[b]? = some (.cells cs 27 q)) (h1 : ∀ i (h : i < x.kids.length), BtG w a G (vs i) x.kids[i]) : BtG w a G (.iface 70 (.pointer (some ⟨g, 0, none⟩))) x
  | nilf (x : Nd) (hk : x.kind = 6) : BtG w a G (.iface 41 (.pointer none)) x
  | claim (x : Nd) (g : Nat) (hk : x.kind = 7) (hG : G g) (hg : w.heap[g]? = some (.cells #[.int .i64 x.code] 75 (0, 0))) : BtG w a G (.iface 73 (.pointer (some ⟨g, 0, none⟩))) x
theorem BtG.bt {w : World} {a : Nat → Addr} {G : Nat → Prop} {v : Value} {x : Nd} (h : BtG w a G v x) : Bt w a v x := by
  induction h with
  | nil x hk => exact .nil x hk
  | api x m hk hm hc => exact .api x m hk hm hc
  | other x g s hk hG hg hne => exact .other x g s hk hg hne
  | flt x g e hk hG hg h0 h1 ih => exact .flt x g e hk hg h0 ih
  | wraps x g e hk hG hg h0 h1 ih => exact .wraps x g e hk hg h0 ih
  | many x g ao cap vs hk hG hg hl hx h1 ih =>
    exact .many x g ao cap vs hk hg hl (fun hp => by obtain ⟨b, e1, e2, _, e3, _⟩ := hx hp; exact ⟨b, e1, e2, e3⟩) ih
  | nilf x hk => exact .nilf x hk
  | claim x g hk hG hg => exact .claim x g hk hg
theorem BtG.keep {w w' : World} {a : Nat → Addr} {G G' : Nat → Prop} {v : Value} {x : Nd} (h : BtG w a G v x) (hs : w.heap.size ≤ w'.heap.size) (hb : ∀ g, G g → g < w.heap.size → w'.heap[g]? = w.heap[g]?) (hG' : ∀ g, G g → g < w.heap.size → G' g) : BtG w' a G' v x := by
  have hl : ∀ {g : Nat} {o : Obj}, w.heap[g]? = some o → g < w.heap.size := fun h => (Array.getElem?_eq_some_iff.1 h).1
  induction h with
  | nil x hk => exact .nil x hk
  | api x m hk hm hc => exact .api x m hk hm hc
  | other x g s hk hG hg hne => exact .other x g s hk (hG' g hG (hl hg)) ((hb g hG (hl hg)).trans hg) hne
  | flt x g e hk hG hg h0 h1 ih => exact .flt x g e hk (hG' g hG (hl hg)) ((hb g hG (hl hg)).trans hg) h0 ih
  | wraps x g e hk hG hg h0 h1 ih => exact .wraps x g e hk (hG' g hG (hl hg)) ((hb g hG (hl hg)).trans hg) h0 ih
  | many x g ao cap vs hk hG hg hm hx h1 ih =>
    refine .many x g ao cap vs hk (hG' g hG (hl hg)) ((hb g hG (hl hg)).trans hg) hm (fun hp => ?_) ih
    obtain ⟨b, e1, e2, e3, e4, cs, q, e5⟩ := hx hp
    refine ⟨b, e1, Nat.lt_of_lt_of_le e2 hs, hG' b e3 e2, fun i hi => ?_, cs, q, (hb b e3 e2).trans e5⟩
    rw [show w'.cell? ⟨b, i, none⟩ = w.cell? ⟨b, i, none⟩ from by simp only [World.cell?]; rw [hb b e3 e2]]
    exact e4 i hi
  | nilf x hk => exact .nilf x hk
  | claim x g hk hG hg => exact .claim x g hk (hG' g hG (hl hg)) ((hb g hG (hl hg)).trans hg)
/-- what build answers -/
def BldP (w : World) (a : Nat → Addr) (x : Nd) (e : Ending) (w' : World) : Prop := (∃ b, e = .returned b ∧ BtG w' a (fun g => w.heap.size ≤ g) b x) ∧ Below w.heap.size w w'
/-- what first answers -/
def FstP (w : World) (a : Nat → Addr) (ks : List Nd) (e : Ending) (w' : World) : Prop :=
  (∃ b, e = .returned b ∧ (b = .nilIface ∨ ∃ u p, b = .iface u p) ∧ (ks = [] → b = .nilIface) ∧ ∀ h : 0 < ks.length, BtG w' a (fun g => w.heap.size ≤ g) b ks[0]) ∧ Below w.heap.size w w'
set_option maxHeartbeats 4000000 in
set_option maxRecDepth 100000 in
theorem first_any {w : World} {a : Nat → Addr} {v : Value} {ks : List Nd} (hv : NdSl w v ks)
    (hb : ∀ (h : 0 < ks.length) (v0 : Value), NdSl w v0 ks[0].kids → Calls Tryd.prog 10 #[ndV ks[0] v0] w (BldP w a ks[0])) :
    Calls Tryd.prog 33 #[v] w (FstP w a ks) := by
  have HV := hide hv
  have HB := hide hb
  obtain ⟨ao, cap, rfl, hcap, hmax⟩ := hv.len
  clear hv hb
  rcases Nat.eq_zero_or_pos ks.length with h0 | h0
  · have hk0 := hide (List.eq_nil_of_length_eq_zero h0)
    have h0' : ((ks.length : Int) == 0) = true := by rw [h0]; rfl
    clear h0
    go_enter Tryd.func33, Tryd.ntmps33
    go_wp2
    go_ret
    exact ⟨⟨_, rfl, Or.inl rfl, fun _ => rfl, fun h => by have := hk0.out; rw [this] at h; simp at h⟩, Below.refl _ _⟩
  · have h0' : ((ks.length : Int) == 0) = false := beq_eq_false_iff_ne.2 (by omega)
    have q1 : (0 : Int) < (ks.length : Int) := by omega
    obtain ⟨b, off, vi, rfl, hbl, hcc, hks⟩ := NdSl.at HV.out rfl h0
    rw [Nat.zero_mul, Nat.add_zero] at hcc
    obtain ⟨z0, z1, z2, z3, z4⟩ := hcc
    have HC := hide (HB.out h0 vi hks)
    unfold ndV at HC
    have HH := hide h0
    obtain ⟨ao2, cap2, rfl, _, _⟩ := hks.len
    generalize hy : ks[0] = y at HC z0 z1 z2 z3 z4
    have HY := hide hy
    clear hks hbl hy
    go_enter Tryd.func33, Tryd.ntmps33
    go_wp2_with fail
    refine HC.out.mono ?_
    rintro e w1 ⟨⟨bv, rfl, hbt⟩, hb1⟩
    have HR := hide (show FstP w a ks (.returned bv) w1 from ⟨⟨bv, rfl, by
      rcases hbt.bt.iface with ⟨h, _⟩ | ⟨u, p, h, _⟩
      · exact Or.inl h
      · exact Or.inr ⟨u, p, h⟩, fun h => by have := HH.out; rw [h] at this; simp at this, fun h => HY.out.symm ▸ hbt⟩, hb1⟩)
    clear hbt hb1
    go_wp2
    go_ret
    exact HR.out

end Go.Proofs.YtbkgphglojjllaaDoor
