import Derived.Test.YticmlelalbaalaaGreatDoorB43
import Derived.Test.YticmlelalbaalaaGreatDoorB27
import Derived.Test.YticmlelalbaalaaGreatDoorB44
import Derived.Test.YticmlelalbaalaaGreatDoorB34
import Derived.Test.YticmlelalbaalaaGreatDoorB22
import Derived.Test.YticmlelalbaalaaGreatDoorB11
import Derived.Stop.RegionWithIn
namespace Go.Proofs.YticmlelalbaalaaGreatDoor
open Go.RowKit Go.Shelf
set_option linter.unusedVariables false
set_option linter.unusedSimpArgs false
attribute [local go_sem] Oper.semAt_some
def FlW (w : World) (g : Nat) (e : Value) (s : ByteArray) : Prop := w.heap[g]? = some (.cells #[e, .int .i64 0, .string s] 65 (0, 0))
theorem FlW.below {w w' : World} {g : Nat} {e : Value} {s : ByteArray} (h : FlW w g e s) (hb : Below w.heap.size w w') : FlW w' g e s := by
  unfold FlW
  rw [hb.block _ (Array.getElem?_eq_some_iff.1 h).1]; exact h
def ErW (B : Nat) (w : World) (v : Value) (ev : Nat → Value) : Option (Nat × List Int) → Prop
  | none => v = .nilIface
  | some (i, p) => ∃ g, B ≤ g ∧ v = .iface 62 (.pointer (some ⟨g, 0, none⟩)) ∧ FlW w g (ev i) (strOfNums (pathT p))
theorem ErW.below {B : Nat} {w w' : World} {v : Value} {ev : Nat → Value} {r : Option (Nat × List Int)} (h : ErW B w v ev r) (hb : Below w.heap.size w w') : ErW B w' v ev r := by
  cases r with
  | none => exact h
  | some q => obtain ⟨g, h1, h2, h3⟩ := h; exact ⟨g, h1, h2, h3.below hb⟩
def DpI (O : Nat → Prop) (h : Nat) (W : World) (e : Value) : Option (List Int) → Prop
  | none => Boxed W (h + 1 + 1) 36 .nilIface
  | some p => ∃ g, O g ∧ h + 1 + 1 < g ∧ Boxed W (h + 1 + 1) 36 (.iface 62 (.pointer (some ⟨g, 0, none⟩))) ∧ FlW W g e (strOfNums (pathT p))
def depF (pre : List NdA) : Option (List Int) := ((pre.map Prod.snd).find? tooD).map Prod.fst
structure CkI (w : World) (e4 : Value) (O : Nat → Prop) (pre : List NdA) (W : World) : Prop where
  b : Below w.heap.size w W
  r : Boxed W (w.heap.size + 1) 36 .nilIface
  al : ∀ q ∈ pre.map Prod.snd, aloB q.2 = true
  d : DpI O w.heap.size W e4 (depF pre)
structure CkX (w : World) (e0 : Value) (c : Code) (O : Nat → Prop) (pre : List NdA) (W : World) : Prop where
  c : c = .ret
  b : Below w.heap.size w W
  f : ∃ p1 q g, pre.map Prod.snd = p1 ++ [q] ∧ (∀ r ∈ p1, aloB r.2 = true) ∧ aloB q.2 = false ∧ O g ∧ w.heap.size + 1 < g ∧ Boxed W (w.heap.size + 1) 36 (.iface 62 (.pointer (some ⟨g, 0, none⟩))) ∧ FlW W g e0 (strOfNums (pathT q.1))
theorem frv_below {s h : Nat} {O : Nat → Prop} {w A B : World} (hb : Below h w A) (hs : h ≤ s) (hh : h ≤ w.heap.size) (f : FrV s O A B) : Below h w B :=
  ⟨f.os.trans hb.os, f.tape.trans hb.tape, f.output.trans hb.output, Nat.le_trans hb.size f.size, fun k hk => (f.block k (Nat.lt_of_lt_of_le (Nat.lt_of_lt_of_le hk hh) hb.size) (.inl (by omega))).trans (hb.block k hk)⟩
theorem frv_box {s k : Nat} {O : Nat → Prop} {A B : World} {t : TypeId} {v : Value} (h : Boxed A k t v) (hk : k < s ∨ O k) (f : FrV s O A B) : Boxed B k t v := (f.block k h.lt hk).trans h
theorem frv_fl {s g : Nat} {O : Nat → Prop} {A B : World} {e : Value} {x : ByteArray} (h : FlW A g e x) (hk : O g) (f : FrV s O A B) : FlW B g e x := (f.block g (Array.getElem?_eq_some_iff.1 h).1 (.inr hk)).trans h
theorem DpI.frv {O : Nat → Prop} {s h : Nat} {A B : World} {e : Value} {r : Option (List Int)} (hd : DpI O h A e r) (hs : h + 1 + 1 < s) (f : FrV s O A B) : DpI O h B e r := by
  cases r with
  | none => exact frv_box hd (.inl hs) f
  | some p => obtain ⟨g, h1, h2, h3, h4⟩ := hd; exact ⟨g, h1, h2, frv_box h3 (.inl hs) f, frv_fl h4 h1 f⟩
theorem box_put {A : World} {k l : Nat} {t : TypeId} {v : Value} {r r' : Loop} (h : Boxed A k t v) (hl : A.heap[l]? = some (.loop r)) : Boxed (A.putObj l (.loop r')) k t v := by
  refine (World.putObj_heap_other (fun e => ?_)).trans h
  subst e
  have := hl.symm.trans h
  simp at this
theorem fl_put {A : World} {g l : Nat} {e : Value} {x : ByteArray} {r r' : Loop} (h : FlW A g e x) (hl : A.heap[l]? = some (.loop r)) : FlW (A.putObj l (.loop r')) g e x := by
  refine (World.putObj_heap_other (fun e => ?_)).trans h
  subst e
  have := hl.symm.trans h
  simp at this
theorem DpI.put {O : Nat → Prop} {h l : Nat} {A : World} {e : Value} {q : Option (List Int)} {r r' : Loop} (hd : DpI O h A e q) (hl : A.heap[l]? = some (.loop r)) : DpI O h (A.putObj l (.loop r')) e q := by
  cases q with
  | none => exact box_put hd hl
  | some p => obtain ⟨g, h1, h2, h3, h4⟩ := hd; exact ⟨g, h1, h2, box_put h3 hl, fl_put h4 hl⟩
theorem cki_frv {w : World} {e4 : Value} {s : Nat} (hs : w.heap.size + 1 + 1 < s) : AbV s (CkI w e4) := by
  rintro O pre A B ⟨h1, h2, h3, h4⟩ f
  exact ⟨frv_below h1 (by omega) (Nat.le_refl _) f, frv_box h2 (.inl (by omega)) f, h3, h4.frv hs f⟩
theorem ckx_frv {w : World} {e0 : Value} {s : Nat} (hs : w.heap.size + 1 + 1 < s) (c : Code) : AbV s (CkX w e0 c) := by
  rintro O pre A B ⟨h1, h2, p1, q, g, h3, h4, h5, h6, h7, h8, h9⟩ f
  exact ⟨h1, frv_below h2 (by omega) (Nat.le_refl _) f, p1, q, g, h3, h4, h5, h6, h7, frv_box h8 (.inl (by omega)) f, frv_fl h9 h6 f⟩
theorem cki_put {w : World} {e4 : Value} {n : Nat} (hn : w.heap.size ≤ n) (O : Nat → Prop) (pre : List NdA) (A : World) (l : Nat) (r r' : Loop) (h : CkI w e4 O pre A) (hl : A.heap[l]? = some (.loop r)) (hx : n ≤ l) : CkI w e4 O pre (A.putObj l (.loop r')) :=
  ⟨h.b.trans (put_below A _ (by omega)), box_put h.r hl, h.al, h.d.put hl⟩
theorem ckx_put {w : World} {e0 : Value} {n : Nat} (hn : w.heap.size ≤ n) (c : Code) (O : Nat → Prop) (pre : List NdA) (A : World) (l : Nat) (r r' : Loop) (h : CkX w e0 c O pre A) (hl : A.heap[l]? = some (.loop r)) (hx : n ≤ l) : CkX w e0 c O pre (A.putObj l (.loop r')) := by
  obtain ⟨h1, h2, p1, q, g, h3, h4, h5, h6, h7, h8, h9⟩ := h
  exact ⟨h1, h2.trans (put_below A _ (by omega)), p1, q, g, h3, h4, h5, h6, h7, box_put h8 hl, fl_put h9 hl⟩
theorem kf_below {B : Nat} {W W' : World} (hb : Below W.heap.size W W') : KeepsFrom B W W' := KeepsFrom.of_grownBy (row := none) ⟨hb.os, hb.tape, hb.output, hb.size, fun k hk _ => hb.block k hk⟩ (fun j e => by cases e)
theorem depF_snoc (pre : List NdA) (a : NdA) : depF (pre ++ [a]) = match depF pre with | some p => some p | none => if tooD a.2 then some a.2.1 else none := by
  unfold depF
  rw [List.map_append, List.find?_append]
  cases h : (pre.map Prod.snd).find? tooD with
  | some q => simp
  | none => simp only [Option.none_or, Option.map_none, List.map_cons, List.map_nil, List.find?_cons, List.find?_nil]; cases tooD a.2 <;> rfl
theorem al_snoc {pre : List NdA} {a : NdA} (h : ∀ q ∈ pre.map Prod.snd, aloB q.2 = true) (ha : aloB a.2.2 = true) : ∀ q ∈ (pre ++ [a]).map Prod.snd, aloB q.2 = true := by
  intro q hq
  rw [List.map_append, List.mem_append] at hq
  rcases hq with hq | hq
  · exact h q hq
  · simp at hq
    subst hq
    exact ha
theorem cki_next {w W W3 : World} {e4 : Value} {O : Nat → Prop} {pre : List NdA} {a : NdA} (hI : CkI w e4 O pre W) (hb : Below W.heap.size W W3) (hal : aloB a.2.2 = true) (hd : tooD a.2 = false ∨ depF pre ≠ none) :
    ∃ O', CkI w e4 O' (pre ++ [a]) W3 ∧ ∀ k, O' k → (O k ∨ W.heap.size ≤ k) ∧ k < W3.heap.size := by
  have hB : Below w.heap.size w W3 := hI.b.trans (hb.mono hI.b.size)
  have hR : Boxed W3 (w.heap.size + 1) 36 .nilIface := (hb.block _ hI.r.lt).trans hI.r
  have hD := hI.d.frv (s := w.heap.size + 1 + 1 + 1) (by omega) (FrV.of_below hb)
  cases h : depF pre with
  | none =>
    rw [h] at hD
    refine ⟨fun _ => False, ⟨hB, hR, al_snoc hI.al hal, ?_⟩, fun k hk => hk.elim⟩
    rw [depF_snoc, h]
    rcases hd with hd | hd
    · simp only [hd]; exact hD
    · exact absurd h hd
  | some p =>
    rw [h] at hD
    obtain ⟨g, h1, h2, h3, h4⟩ := hD
    have hdg := hI.d
    rw [h] at hdg
    obtain ⟨g', h1', h2', h3', h4'⟩ := hdg
    have eg : g = g' := by
      have e1 := h3.symm.trans ((hb.block _ h3'.lt).trans h3')
      simp at e1
      exact e1
    subst eg
    have hl := (Array.getElem?_eq_some_iff.1 h4').1
    refine ⟨fun k => k = g, ⟨hB, hR, al_snoc hI.al hal, ?_⟩, fun k hk => by subst hk; exact ⟨.inl h1, Nat.lt_of_lt_of_le hl hb.size⟩⟩
    rw [depF_snoc, h]
    exact ⟨g, rfl, h2, h3, h4⟩
theorem fl_new {W : World} {h : Nat} {e : Value} {s : ByteArray} {u : Value} (hh : h < W.heap.size) : FlW ((W.alloc (.cells #[e, .int .i64 0, .string s] 65)).setCell ⟨h, 0, none⟩ u) W.heap.size e s :=
  (Below.heap_setCell _ _ _ _ (show W.heap.size ≠ h by omega)).trans (World.alloc_heap_new W _)
theorem kf_new {B h : Nat} {W W6 : World} {o : Obj} {u : Value} (hb : Below W.heap.size W W6) : KeepsFrom B W ((W6.alloc o).setCell ⟨h, 0, none⟩ u) := (kf_below hb).trans (((KeepsOthers.alloc W6 o).trans (KeepsOthers.setCell _ _ _)).from _)
theorem cki_deep {w W W6 : World} {e4 : Value} {O : Nat → Prop} {pre : List NdA} {a : NdA} {B S : Nat} (hS : w.heap.size + 1 + 1 < S) (hI : CkI w e4 O pre W) (hb : Below W.heap.size W W6) (hal : aloB a.2.2 = true) (h0 : depF pre = none) (ht : tooD a.2 = true) :
    KeepsFrom B W ((W6.alloc (.cells #[e4, .int .i64 0, .string (strOfNums (pathT a.2.1))] 65)).setCell ⟨w.heap.size + 1 + 1, 0, none⟩ (.iface 62 (.pointer (some ⟨W6.heap.size, 0, none⟩)))) ∧
    KbV S O W ((W6.alloc (.cells #[e4, .int .i64 0, .string (strOfNums (pathT a.2.1))] 65)).setCell ⟨w.heap.size + 1 + 1, 0, none⟩ (.iface 62 (.pointer (some ⟨W6.heap.size, 0, none⟩)))) ∧
    ∃ O', CkI w e4 O' (pre ++ [a]) ((W6.alloc (.cells #[e4, .int .i64 0, .string (strOfNums (pathT a.2.1))] 65)).setCell ⟨w.heap.size + 1 + 1, 0, none⟩ (.iface 62 (.pointer (some ⟨W6.heap.size, 0, none⟩)))) ∧
      ∀ k, O' k → (O k ∨ W.heap.size ≤ k) ∧ k < ((W6.alloc (.cells #[e4, .int .i64 0, .string (strOfNums (pathT a.2.1))] 65)).setCell ⟨w.heap.size + 1 + 1, 0, none⟩ (.iface 62 (.pointer (some ⟨W6.heap.size, 0, none⟩)))).heap.size := by
  have hB : Below w.heap.size w W6 := hI.b.trans (hb.mono hI.b.size)
  have hR : Boxed W6 (w.heap.size + 1) 36 .nilIface := (hb.block _ hI.r.lt).trans hI.r
  have hD := hI.d
  rw [h0] at hD
  have hD6 : Boxed W6 (w.heap.size + 1 + 1) 36 .nilIface := (hb.block _ (show Boxed _ _ _ _ from hD).lt).trans hD
  have hsz := hb.size
  refine ⟨kf_new hb, ⟨by simp [World.setCell]; omega, fun k h1 h2 h3 => ?_⟩, fun k => k = W6.heap.size, ⟨(hB.alloc hB.size _).setCell (p := ⟨w.heap.size + 1 + 1, 0, none⟩) (show w.heap.size ≤ w.heap.size + 1 + 1 by omega) _, (hR.alloc _).other (by omega) _, al_snoc hI.al hal, ?_⟩, fun k hk => by subst hk; exact ⟨.inr hsz, by simp [World.setCell]⟩⟩
  · exact (Below.heap_setCell _ _ _ _ (show k ≠ w.heap.size + 1 + 1 by omega)).trans ((Below.heap_alloc _ _ _ (by omega)).trans (hb.block k h2))
  · rw [depF_snoc, h0]
    simp only [ht, if_true]
    exact ⟨W6.heap.size, rfl, hD6.lt, (hD6.alloc _).set _, fl_new hD6.lt⟩
theorem ckx_bad {w W W6 : World} {e0 e4 : Value} {O : Nat → Prop} {pre : List NdA} {a : NdA} {B : Nat} (hI : CkI w e4 O pre W) (hb : Below W.heap.size W W6) (hal : aloB a.2.2 = false) :
    KeepsFrom B W ((W6.alloc (.cells #[e0, .int .i64 0, .string (strOfNums (pathT a.2.1))] 65)).setCell ⟨w.heap.size + 1, 0, none⟩ (.iface 62 (.pointer (some ⟨W6.heap.size, 0, none⟩)))) ∧
    ∃ O', CkX w e0 .ret O' (pre ++ [a]) ((W6.alloc (.cells #[e0, .int .i64 0, .string (strOfNums (pathT a.2.1))] 65)).setCell ⟨w.heap.size + 1, 0, none⟩ (.iface 62 (.pointer (some ⟨W6.heap.size, 0, none⟩)))) := by
  have hB : Below w.heap.size w W6 := hI.b.trans (hb.mono hI.b.size)
  have hR : Boxed W6 (w.heap.size + 1) 36 .nilIface := (hb.block _ hI.r.lt).trans hI.r
  exact ⟨kf_new hb, fun k => k = W6.heap.size, rfl, (hB.alloc hB.size _).setCell (p := ⟨w.heap.size + 1, 0, none⟩) (show w.heap.size ≤ w.heap.size + 1 by omega) _, pre.map Prod.snd, a.2, W6.heap.size, by simp, hI.al, hal, rfl, hR.lt, (hR.alloc _).set _, fl_new hR.lt⟩
set_option maxRecDepth 100000 in
set_option maxHeartbeats 16000000 in
theorem check_anyV {w : World} (L : Lays w) (T : Brn w) (U : Uss w) (P : PtW w) {ev : Nat → Value} {et0 et4 : TypeId} {eo0 eo4 : Option Addr} (he0 : ev 0 = .iface et0 (.pointer eo0)) (he4 : ev 4 = .iface et4 (.pointer eo4))
    (hE0 : w.cell? ⟨0, 0, none⟩ = some (ev 0)) (hE4 : w.cell? ⟨1, 0, none⟩ = some (ev 4)) {v : Value} {x : Va} (hv : VaRd w v x) (hp : vpts x ≤ 1048578) (hk8 : ∀ q ∈ preV [] x, q.2.kind = 8 → kpts q.2.kids ≤ 1048576) :
    Calls Tryz.prog 12 #[v] w fun e w' => (∃ u, e = .returned u ∧ ErW w.heap.size w' u ev (chkV x)) ∧ Below w.heap.size w w' := by
  rw [he0] at hE0
  rw [he4] at hE4
  have HE0 := hide hE0
  have HE4 := hide hE4
  have HE0l := hide (vcell_lt hE0)
  have HE4l := hide (vcell_lt hE4)
  have HL := hide L
  have HT := hide T
  have HU := hide U
  have HP := hide P
  have HPT := hide hp
  have HK8 := hide hk8
  have He0 := hide he0
  have He4 := hide he4
  have HV := hide hv
  obtain ⟨⟨vm, vk, rfl, hm, hk⟩, hw⟩ := hv
  obtain ⟨mo, mc, rfl, -⟩ : ∃ ao cap, vm = .slice ao x.mag.length cap ∧ True := by obtain ⟨ao, cap, h, _⟩ := hm; exact ⟨ao, cap, h, trivial⟩
  obtain ⟨ko, kc, rfl, -⟩ := hk.len
  unfold vaV at HV ⊢
  obtain ⟨n0, hn0⟩ : ∃ n, x.mag.length = n := ⟨_, rfl⟩
  obtain ⟨l0, hl0⟩ : ∃ n, x.kids.length = n := ⟨_, rfl⟩
  obtain ⟨tx, htx⟩ : ∃ t, strOfNums x.text = t := ⟨_, rfl⟩
  rw [hn0, hl0, htx] at HV ⊢
  clear hE0 hE4 L T U P hp hk8 he0 he4 hm hk hw hn0 hl0 htx
  refine (callsIn_wide (n := 5)).1 ?_
  refine callsIn_of_wp_marks Tryz.func12 rfl trivial ?_ rfl
  simp only [Tryz.ntmps12, List.size_toArray, List.length_cons, List.length_nil, Nat.reduceAdd, Nat.reduceSub, Array.replicate_succ, Array.replicate_zero, List.push_toArray, List.append_toArray, List.nil_append, List.cons_append]
  gi_wp2_with fail
  refine ⟨trivial, (callsIn_wide.2 nodes_any).mono ?_⟩
  rintro e' w' ⟨rfl, rfl⟩
  have K0 : Below w.heap.size w ((w.alloc (.cells #[.int .i8 x.kind, .int .u64 x.n, .bool x.neg, .slice mo n0 mc, .int .u64 x.bits, .int .i8 x.ext, .string tx, .slice ko l0 kc] 31)).alloc (.cells #[.nilIface] 36)) := ((Below.refl _ w).alloc (Nat.le_refl _) _).alloc (by simp) _
  have K : Below w.heap.size w ((((w.alloc (.cells #[.int .i8 x.kind, .int .u64 x.n, .bool x.neg, .slice mo n0 mc, .int .u64 x.bits, .int .i8 x.ext, .string tx, .slice ko l0 kc] 31)).alloc (.cells #[.nilIface] 36)).alloc (.cells #[.nilIface] 36)).alloc (.cells #[.int .i8 x.kind, .int .u64 x.n, .bool x.neg, .slice mo n0 mc, .int .u64 x.bits, .int .i8 x.ext, .string tx, .slice ko l0 kc] 31)) := (K0.alloc (by simp; omega) _).alloc (by simp; omega) _
  have bR := ((Boxed.new (w.alloc (.cells #[.int .i8 x.kind, .int .u64 x.n, .bool x.neg, .slice mo n0 mc, .int .u64 x.bits, .int .i8 x.ext, .string tx, .slice ko l0 kc] 31)) 36 .nilIface).alloc (.cells #[.nilIface] 36)).alloc (.cells #[.int .i8 x.kind, .int .u64 x.n, .bool x.neg, .slice mo n0 mc, .int .u64 x.bits, .int .i8 x.ext, .string tx, .slice ko l0 kc] 31)
  have bD := (Boxed.new ((w.alloc (.cells #[.int .i8 x.kind, .int .u64 x.n, .bool x.neg, .slice mo n0 mc, .int .u64 x.bits, .int .i8 x.ext, .string tx, .slice ko l0 kc] 31)).alloc (.cells #[.nilIface] 36)) 36 .nilIface).alloc (.cells #[.int .i8 x.kind, .int .u64 x.n, .bool x.neg, .slice mo n0 mc, .int .u64 x.bits, .int .i8 x.ext, .string tx, .slice ko l0 kc] 31)
  have bV := bx8_new (((w.alloc (.cells #[.int .i8 x.kind, .int .u64 x.n, .bool x.neg, .slice mo n0 mc, .int .u64 x.bits, .int .i8 x.ext, .string tx, .slice ko l0 kc] 31)).alloc (.cells #[.nilIface] 36)).alloc (.cells #[.nilIface] 36)) (.int .i8 x.kind) (.int .u64 x.n) (.bool x.neg) (.slice mo n0 mc) (.int .u64 x.bits) (.int .i8 x.ext) (.string tx) (.slice ko l0 kc) 31
  simp only [World.size_alloc] at bR bD bV
  have hsz : ((((w.alloc (.cells #[.int .i8 x.kind, .int .u64 x.n, .bool x.neg, .slice mo n0 mc, .int .u64 x.bits, .int .i8 x.ext, .string tx, .slice ko l0 kc] 31)).alloc (.cells #[.nilIface] 36)).alloc (.cells #[.nilIface] 36)).alloc (.cells #[.int .i8 x.kind, .int .u64 x.n, .bool x.neg, .slice mo n0 mc, .int .u64 x.bits, .int .i8 x.ext, .string tx, .slice ko l0 kc] 31)).heap.size = w.heap.size + 4 := by simp
  have HR := hide bR
  have HD := hide bD
  have HBV := hide bV
  have HK := hide K
  have HS := hide hsz
  clear bR bD bV K K0 hsz
  gi_wp2_with fail
  generalize (((w.alloc (.cells #[.int .i8 x.kind, .int .u64 x.n, .bool x.neg, .slice mo n0 mc, .int .u64 x.bits, .int .i8 x.ext, .string tx, .slice ko l0 kc] 31)).alloc (.cells #[.nilIface] 36)).alloc (.cells #[.nilIface] 36)).alloc (.cells #[.int .i8 x.kind, .int .u64 x.n, .bool x.neg, .slice mo n0 mc, .int .u64 x.bits, .int .i8 x.ext, .string tx, .slice ko l0 kc] 31) = w4 at *
  refine wpIn_rangeV rfl (by omega) (gf := 64) (lb := #[.pointer (some ⟨w.heap.size + 1 + 1 + 1, 0, none⟩)]) (by simp [go_sem]) trivial (enters_of Tryz.func64 (by kernel_rfl) rfl)
    (nodes_seq HV.out (by have := vnod_pts x; have := HPT.out; omega) HBV.out) rdn_put rdn_far (Below.refl _ _) (fun _ => rfl)
    (CkI w (.iface et4 (.pointer eo4))) (CkX w (.iface et0 (.pointer eo0)))
    (cki_frv (by have := HS.out; omega)) (ckx_frv (by have := HS.out; omega)) (cki_put (by have := HS.out; omega)) (ckx_put (by have := HS.out; omega))
    (fun O pre W1 h => h.b)
    ⟨HK.out, HR.out, by simp, HD.out⟩
    (fun a act W => ∃ p, act = { tmps := #[.agg #[.int .i8 x.kind, .int .u64 x.n, .bool x.neg, .slice mo n0 mc, .int .u64 x.bits, .int .i8 x.ext, .string tx, .slice ko l0 kc], .pointer (some ⟨w.heap.size, 0, none⟩), .pointer (some ⟨w.heap.size + 1, 0, none⟩), .pointer (some ⟨w.heap.size + 1 + 1, 0, none⟩), a.1.1, .pointer (some ⟨p, 0, none⟩), .agg #[.int .i8 x.kind, .int .u64 x.n, .bool x.neg, .slice mo n0 mc, .int .u64 x.bits, .int .i8 x.ext, .string tx, .slice ko l0 kc], .func (.func 64) #[] #[.pointer (some ⟨w.heap.size + 1 + 1 + 1, 0, none⟩)], a.1.1, ndV a.1.2 a.2.2, undef, undef, undef, undef, undef, undef, undef, undef, undef, undef, undef, undef, undef, undef, undef, undef, undef, undef, undef, undef, undef, undef, undef, undef, undef, undef, undef], defers := [] } ∧ p < W.heap.size ∧ Bx8 W p (.int .i8 a.2.2.kind) (.int .u64 a.2.2.n) (.bool a.2.2.neg) (.slice a.1.2.1 a.2.2.mag.length a.1.2.2.1) (.int .u64 a.2.2.bits) (.int .i8 a.2.2.ext) (.string (strOfNums a.2.2.text)) (.slice a.1.2.2.2.1 a.2.2.kids.length a.1.2.2.2.2))
    ?hat ?assign ?body ?done ?stop
  case hat =>
    rintro x a' A l r r' ⟨p, rfl, hpl, hp⟩ hl
    refine ⟨p, rfl, by simpa using hpl, hp.same (World.putObj_heap_other ?_)⟩
    rintro rfl
    have := hp.1
    simp [World.cell?, hl] at this
  case assign =>
    intro l x W K hK
    obtain ⟨⟨vp, m1, m2, k1, k2⟩, q, y⟩ := x
    unfold encN ndV vaV
    simp only
    unfold encN ndV vaV at hK
    simp only at hK
    gi_wp2
    refine hK _ _ ((Below.refl _ W).alloc (Nat.le_refl _) _) ⟨W.heap.size, rfl, by simp, bx8_new _ _ _ _ _ _ _ _ _ _⟩
  case body =>
    rintro l O pre a1 a' W hI hr ⟨p, rfl, hpl, hbx⟩ hle
    obtain ⟨⟨vp, m1, m2, k1, k2⟩, q, y⟩ := a1
    obtain ⟨hrq, hry, hpre⟩ := hr
    simp only at hrq hry hpre hbx
    unfold ndV vaV at hry
    unfold ndV vaV
    simp only at hry ⊢
    have hqm : (q, y) ∈ preV [] x := hpre.subset (by simp)
    have hpy : y.kind = 8 → kpts y.kids ≤ 1048576 := HK8.out _ hqm
    have hpq : (∀ z ∈ q, 0 ≤ z ∧ z < 9223372036854775807) ∧ q.length ≤ 1048577 := by
      obtain ⟨r, h1, h2, h3⟩ := pre_mem _ x (Nat.le_refl _) [] _ hqm
      simp only [List.nil_append] at h1
      subst h1
      have := vnod_pts x
      have := HPT.out
      exact ⟨fun z hz => by have := h2 z hz; omega, by omega⟩
    obtain ⟨n1, hn1⟩ : ∃ n, y.mag.length = n := ⟨_, rfl⟩
    obtain ⟨l1, hl1⟩ : ∃ n, y.kids.length = n := ⟨_, rfl⟩
    obtain ⟨ty, hty⟩ : ∃ t, strOfNums y.text = t := ⟨_, rfl⟩
    rw [hn1, hl1, hty] at hry hbx ⊢
    have HQ := hide hrq
    obtain ⟨qa, qc, rfl, hqc, hqm, -⟩ := hrq
    have HI := hide hI
    have HY := hide hry
    have HPY := hide hpy
    have HPQ := hide hpq
    have HBX := hide hbx
    have HTD := hide (show tooD (q, y) = (vcont y && decide (128 ≤ q.length)) from rfl)
    have MAY := hide (maybe_anyU (HL.out.below hI.b) (HT.out.below hI.b) (HU.out.below hI.b) hry hpy)
    obtain ⟨ql, hql⟩ : ∃ n, q.length = n := ⟨_, rfl⟩
    rw [hql] at hqc HTD HQ ⊢
    obtain ⟨ab, hab⟩ : ∃ b, aloB y = b := ⟨_, rfl⟩
    rw [hab] at MAY
    have HAB := hide hab
    obtain ⟨z0, z1, z2, z3, z4, z5, z6, z7⟩ := hbx
    clear hn1 hl1 hty hqm hI hry hpy hpq hpre hql hab
    gi_wp2_with fail
    refine ⟨trivial, (CallsIn.inRound l (callsIn_wide.2 MAY.out)).mono ?_⟩
    rintro e' W2 ⟨rfl, hb2⟩
    have HW2 := hide hb2
    have hR2 : Boxed W2 (w.heap.size + 1) 36 .nilIface := (hb2.block _ HI.out.r.lt).trans HI.out.r
    have HB2 := hide (HI.out.b.trans (hb2.mono HI.out.b.size))
    have BX2 := HBX.out.below hb2 hpl
    clear z0 z1 z2 z3 z4 z5 z6 z7 hb2 MAY
    cases ab
    · have HWR := hide (written_any (w := W2.drew) ((HP.out.below HB2.out).below (Below.refl _ _).drew) ((HQ.out.below HW2.out).below (Below.refl _ _).drew) HPQ.out.1 HPQ.out.2)
      obtain ⟨pt, hpt⟩ : ∃ s, strOfNums (pathT q) = s := ⟨_, rfl⟩
      rw [hpt] at HWR
      have hE2 := (HB2.out.cell (p := ⟨0, 0, none⟩) HE0l.out).trans HE0.out
      have hc2 := hR2.cell
      have hf2 := hR2.frozen
      gi_wp2_with fail
      have hE2d : W2.drew.cell? ⟨0, 0, none⟩ = some (.iface et0 (.pointer eo0)) := hE2
      have HRx := hide (show Boxed W2.drew (w.heap.size + 1) 36 .nilIface from hR2)
      have hcd := HRx.out.cell
      have hfd := HRx.out.frozen
      have HBd := hide (show Below w.heap.size w W2.drew from HB2.out.drew)
      have HWd := hide (show Below W.heap.size W W2.drew from HW2.out.drew)
      clear hc2 hf2 hE2 hR2
      gi_region_with (refine ⟨trivial, (CallsIn.inRound l (callsIn_wide.2 HWR.out)).mono ?_⟩; rintro e' W6 ⟨rfl, hb6⟩; have hE6 := ((HBd.out.trans (hb6.mono HBd.out.size)).cell (p := ⟨0, 0, none⟩) HE0l.out).trans HE0.out; have HR6 := hide (show Boxed W6 (w.heap.size + 1) 36 .nilIface from (hb6.block _ HRx.out.lt).trans HRx.out); have HB6 := hide hb6; clear hb6; have hc6 := (HR6.out.alloc (.cells #[(.iface et0 (.pointer eo0)), .int .i64 0, .string pt] 65)).cell; have hf6 := (HR6.out.alloc (.cells #[(.iface et0 (.pointer eo0)), .int .i64 0, .string pt] 65)).frozen)
      all_goals
        gi_wp2
        have FIN := ckx_bad (e0 := .iface et0 (.pointer eo0)) (B := w4.heap.size) (a := ((.slice qa ql qc, (m1, m2, k1, k2)), (q, y))) HI.out (HWd.out.trans (HB6.out.mono HWd.out.size)) HAB.out
        simp only at FIN
        rw [hpt] at FIN
        exact FIN
    · clear hR2
      have HD2 := hide (HI.out.d.frv (s := w.heap.size + 1 + 1 + 1) (by omega) (FrV.of_below HW2.out))
      obtain ⟨df, hdf⟩ : ∃ d, depF pre = d := ⟨_, rfl⟩
      rw [hdf] at HD2
      have HDF := hide hdf
      clear hdf
      cases df with
      | some pth =>
        obtain ⟨g, -, -, hbD, -⟩ := HD2.out
        have cD := hbD.cell
        clear hbD BX2
        gi_wp2
        refine ⟨trivial, ?_⟩
        gi_wp2
        exact ⟨kf_below HW2.out, KbV.far HW2.out, cki_next HI.out HW2.out HAB.out (.inr (by rw [HDF.out]; simp))⟩
      | none =>
        have hbD : Boxed W2 (w.heap.size + 1 + 1) 36 .nilIface := HD2.out
        have cD := hbD.cell
        have HBD := hide hbD
        obtain ⟨z0, z1, z2, z3, z4, z5, z6, z7⟩ := BX2
        have HIC := hide (viscont_any (HY.out.far HW2.out))
        obtain ⟨c, hc⟩ : ∃ c, vcont y = c := ⟨_, rfl⟩
        rw [hc] at HIC HTD
        clear hc hbD
        gi_wp2_with fail
        refine ⟨trivial, (CallsIn.inRound l (callsIn_wide.2 HIC.out)).mono ?_⟩
        rintro e' W3 ⟨rfl, hb3⟩
        have HW3 := hide (HW2.out.trans (hb3.mono HW2.out.size))
        have HB3 := hide (HB2.out.trans (hb3.mono HB2.out.size))
        have hR2 : Boxed W3 (w.heap.size + 1 + 1) 36 .nilIface := (hb3.block _ HBD.out.lt).trans HBD.out
        clear cD z0 z1 z2 z3 z4 z5 z6 z7 hb3 HIC
        cases c
        · clear hR2
          gi_wp2
          exact ⟨kf_below HW3.out, KbV.far HW3.out, cki_next HI.out HW3.out HAB.out (.inl (by rw [HTD.out]; rfl))⟩
        · by_cases h128 : 128 ≤ ql
          · have q128 : (128 : Int) ≤ (ql : Int) := by omega
            have HT2 := hide (show tooD (q, y) = true by rw [HTD.out, decide_eq_true h128]; rfl)
            have HWR := hide (written_any (w := W3.drew) ((HP.out.below HB3.out).below (Below.refl _ _).drew) ((HQ.out.below HW3.out).below (Below.refl _ _).drew) HPQ.out.1 HPQ.out.2)
            obtain ⟨pt, hpt⟩ : ∃ s, strOfNums (pathT q) = s := ⟨_, rfl⟩
            rw [hpt] at HWR
            clear h128
            have hE2 := (HB3.out.cell (p := ⟨1, 0, none⟩) HE4l.out).trans HE4.out
            have hc2 := hR2.cell
            have hf2 := hR2.frozen
            gi_wp2_with fail
            have hE2d : W3.drew.cell? ⟨1, 0, none⟩ = some (.iface et4 (.pointer eo4)) := hE2
            have HRx := hide (show Boxed W3.drew (w.heap.size + 1 + 1) 36 .nilIface from hR2)
            have hcd := HRx.out.cell
            have hfd := HRx.out.frozen
            have HBd := hide (show Below w.heap.size w W3.drew from HB3.out.drew)
            have HWd := hide (show Below W.heap.size W W3.drew from HW3.out.drew)
            clear hc2 hf2 hE2 hR2
            gi_region_with (refine ⟨trivial, (CallsIn.inRound l (callsIn_wide.2 HWR.out)).mono ?_⟩; rintro e' W6 ⟨rfl, hb6⟩; have hE6 := ((HBd.out.trans (hb6.mono HBd.out.size)).cell (p := ⟨1, 0, none⟩) HE4l.out).trans HE4.out; have HR6 := hide (show Boxed W6 (w.heap.size + 1 + 1) 36 .nilIface from (hb6.block _ HRx.out.lt).trans HRx.out); have HB6 := hide hb6; clear hb6; have hc6 := (HR6.out.alloc (.cells #[(.iface et4 (.pointer eo4)), .int .i64 0, .string pt] 65)).cell; have hf6 := (HR6.out.alloc (.cells #[(.iface et4 (.pointer eo4)), .int .i64 0, .string pt] 65)).frozen)
            all_goals
              gi_wp2
              have FIN := cki_deep (e4 := .iface et4 (.pointer eo4)) (B := w4.heap.size) (S := w4.heap.size + 2) (a := ((.slice qa ql qc, (m1, m2, k1, k2)), (q, y))) (by have := HS.out; omega) HI.out (HWd.out.trans (HB6.out.mono HWd.out.size)) HAB.out HDF.out HT2.out
              simp only at FIN
              rw [hpt] at FIN
              exact FIN
          · have q128 : ¬ (128 : Int) ≤ (ql : Int) := by omega
            have HT2 := hide (show tooD (q, y) = false by rw [HTD.out, decide_eq_false h128]; rfl)
            clear hR2 h128
            gi_wp2
            exact ⟨kf_below HW3.out, KbV.far HW3.out, cki_next HI.out HW3.out HAB.out (.inl HT2.out)⟩
  case done =>
    rintro D O ys W hD hys hI hK
    have hne : D ≠ w.heap.size + 1 := by have := HS.out; omega
    have hl2 := hide (show ∀ q ∈ preV [] x, aloB q.2 = true by rw [← hys]; exact hI.al)
    have hd := hI.d
    have hdq : depF ys = ((preV [] x).find? tooD).map Prod.fst := by unfold depF; rw [hys]
    rw [hdq] at hd
    have HD := hide hd
    have HB := hide hI.b
    have HRI := hide hI.r
    have HKK := hide hK
    have hc := hI.r.cell
    have hf := hI.r.frozen
    have hch : chkV x = ((preV [] x).find? tooD).map fun q => (4, q.1) := by
      unfold chkV
      rw [find_all (fun q hq => by rw [hl2.out q hq]; rfl)]
    obtain ⟨fd, hfd⟩ : ∃ f, (preV [] x).find? tooD = f := ⟨_, rfl⟩
    rw [hfd] at HD hch
    have HCH := hide hch
    clear hI hys hd hdq hch hfd hK
    cases fd with
    | none =>
      have hd2 : Boxed W (w.heap.size + 1 + 1) 36 .nilIface := HD.out
      have cd := hd2.cell
      gi_wp2
      have hK2 : (W.setCell ⟨w.heap.size + 1, 0, none⟩ .nilIface).heap[D]? = some (.deferred (some [])) := (Below.heap_setCell _ _ _ _ hne).trans HKK.out
      refine ⟨by simp, .inl ⟨_, _, rfl, run_takeDeferred hK2, ?_⟩⟩
      have hR2 : Boxed ((W.setCell ⟨w.heap.size + 1, 0, none⟩ .nilIface).putObj D (.deferred none)) (w.heap.size + 1) 36 .nilIface := (World.putObj_heap_other (Ne.symm hne)).trans (HRI.out.set _)
      have hB2 : Below w.heap.size w ((W.setCell ⟨w.heap.size + 1, 0, none⟩ .nilIface).putObj D (.deferred none)) := (HB.out.setCell (p := ⟨w.heap.size + 1, 0, none⟩) (show w.heap.size ≤ w.heap.size + 1 by omega) _).trans (put_below _ _ (by have := HS.out; omega))
      have c2 := hR2.cell
      have f2 := hR2.frozen
      generalize (W.setCell ⟨w.heap.size + 1, 0, none⟩ .nilIface).putObj D (.deferred none) = W9 at *
      exact ⟨.nilIface, by rw [results_cellN rfl]; go_simp, ⟨_, rfl, by rw [HCH.out]; rfl⟩, hB2⟩
    | some q =>
      obtain ⟨g, -, hg, hd2, hfl⟩ := HD.out
      have cd := hd2.cell
      have hng : g ≠ D := by
        rintro rfl
        have := hfl.symm.trans HKK.out
        simp at this
      have HFL := hide hfl
      clear hd2 hfl
      gi_wp2
      have hK2 : (W.setCell ⟨w.heap.size + 1, 0, none⟩ (.iface 62 (.pointer (some ⟨g, 0, none⟩)))).heap[D]? = some (.deferred (some [])) := (Below.heap_setCell _ _ _ _ hne).trans HKK.out
      refine ⟨by simp, .inl ⟨_, _, rfl, run_takeDeferred hK2, ?_⟩⟩
      have hR2 : Boxed ((W.setCell ⟨w.heap.size + 1, 0, none⟩ (.iface 62 (.pointer (some ⟨g, 0, none⟩)))).putObj D (.deferred none)) (w.heap.size + 1) 36 (.iface 62 (.pointer (some ⟨g, 0, none⟩))) := (World.putObj_heap_other (Ne.symm hne)).trans (HRI.out.set _)
      have hF2 : FlW ((W.setCell ⟨w.heap.size + 1, 0, none⟩ (.iface 62 (.pointer (some ⟨g, 0, none⟩)))).putObj D (.deferred none)) g (.iface et4 (.pointer eo4)) (strOfNums (pathT q.1)) := (World.putObj_heap_other hng).trans ((Below.heap_setCell _ _ _ _ (show g ≠ w.heap.size + 1 by omega)).trans HFL.out)
      have hB2 : Below w.heap.size w ((W.setCell ⟨w.heap.size + 1, 0, none⟩ (.iface 62 (.pointer (some ⟨g, 0, none⟩)))).putObj D (.deferred none)) := (HB.out.setCell (p := ⟨w.heap.size + 1, 0, none⟩) (show w.heap.size ≤ w.heap.size + 1 by omega) _).trans (put_below _ _ (by have := HS.out; omega))
      have c2 := hR2.cell
      have f2 := hR2.frozen
      generalize (W.setCell ⟨w.heap.size + 1, 0, none⟩ (.iface 62 (.pointer (some ⟨g, 0, none⟩)))).putObj D (.deferred none) = W9 at *
      exact ⟨.iface 62 (.pointer (some ⟨g, 0, none⟩)), by rw [results_cellN rfl]; go_simp, ⟨_, rfl, by rw [HCH.out]; exact ⟨g, by omega, rfl, by rw [He4.out]; exact hF2⟩⟩, hB2⟩
  case stop =>
    rintro D c O pre W hD ⟨hq1, hq2⟩ ⟨rfl, hB, p1, q, g, h3, h4, h5, h6, h7, h8, h9⟩ hK
    have hne : D ≠ w.heap.size + 1 := by have := HS.out; omega
    have hng : g ≠ D := by
      rintro rfl
      have := h9.symm.trans hK
      simp at this
    have hch : chkV x = some (0, q.1) := by
      unfold chkV
      rw [find_at (pre := p1) (a := q) (by rw [← h3]; exact hq2) (fun b hb => by rw [h4 b hb]; rfl) (by rw [h5]; rfl)]
    have HCH := hide hch
    clear hch
    gi_wp2
    refine ⟨by simp, .inl ⟨_, _, rfl, run_takeDeferred hK, ?_⟩⟩
    have hR2 : Boxed (W.putObj D (.deferred none)) (w.heap.size + 1) 36 (.iface 62 (.pointer (some ⟨g, 0, none⟩))) := (World.putObj_heap_other (Ne.symm hne)).trans h8
    have hF2 : FlW (W.putObj D (.deferred none)) g (.iface et0 (.pointer eo0)) (strOfNums (pathT q.1)) := (World.putObj_heap_other hng).trans h9
    have hB2 : Below w.heap.size w (W.putObj D (.deferred none)) := hB.trans (put_below _ _ (by have := HS.out; omega))
    have c2 := hR2.cell
    have f2 := hR2.frozen
    generalize W.putObj D (.deferred none) = W9 at *
    exact ⟨.iface 62 (.pointer (some ⟨g, 0, none⟩)), by rw [results_cellN rfl]; go_simp, ⟨_, rfl, by rw [HCH.out]; exact ⟨g, by omega, rfl, by rw [He0.out]; exact hF2⟩⟩, hB2⟩
theorem check_anyU {w : World} (L : Lays w) (T : Brn w) (U : Uss w) (P : PtW w) {ev : Nat → Value} {et0 et4 : TypeId} {eo0 eo4 : Option Addr} (he0 : ev 0 = .iface et0 (.pointer eo0)) (he4 : ev 4 = .iface et4 (.pointer eo4))
    (hE0 : w.cell? ⟨0, 0, none⟩ = some (ev 0)) (hE4 : w.cell? ⟨1, 0, none⟩ = some (ev 4)) {v : Value} {x : Va} (hv : VaRd w v x) (hp : vpts x ≤ 1048577) :
    Calls Tryz.prog 12 #[v] w fun e w' => (∃ u, e = .returned u ∧ ErW w.heap.size w' u ev (chkV x)) ∧ Below w.heap.size w w' := check_anyV L T U P he0 he4 hE0 hE4 hv (by omega) fun q hq _ => by
    have h1 := pre_pts _ x (Nat.le_refl _) [] q hq
    have h2 := vpts_eq q.2
    omega
theorem check_any {w : World} (L : Lays w) (T : Brn w) (U : Uss w) (P : PtW w) {ev : Nat → Value} {et0 et4 : TypeId} {eo0 eo4 : Option Addr} (he0 : ev 0 = .iface et0 (.pointer eo0)) (he4 : ev 4 = .iface et4 (.pointer eo4))
    (hE0 : w.cell? ⟨0, 0, none⟩ = some (ev 0)) (hE4 : w.cell? ⟨1, 0, none⟩ = some (ev 4)) {v : Value} {x : Va} (hv : VaRd w v x) (hp : vpts x ≤ 1048576) :
    Calls Tryz.prog 12 #[v] w fun e w' => (∃ u, e = .returned u ∧ ErW w.heap.size w' u ev (chkV x)) ∧ Below w.heap.size w w' := check_anyU L T U P he0 he4 hE0 hE4 hv (by omega)
end Go.Proofs.YticmlelalbaalaaGreatDoor
namespace Go.Proofs.YticmlelalbaalaaGreatDoor
open Go.RowKit
set_option linter.unusedVariables false
set_option linter.unusedSimpArgs false
attribute [local go_sem] Oper.semAt_some
structure CnI (w : World) (O : Nat → Prop) (pre : List NdA) (W : World) : Prop where
  b : Below w.heap.size w W
  r : Boxed W (w.heap.size + 1) 3 (.int .i64 (pre.length : Nat))
theorem cni_frv {w : World} {s : Nat} (hs : w.heap.size + 1 < s) : AbV s (CnI w) := by
  rintro O pre A B ⟨h1, h2⟩ f
  exact ⟨frv_below h1 (by omega) (Nat.le_refl _) f, frv_box h2 (.inl (by omega)) f⟩
theorem cni_put {w : World} {n : Nat} (hn : w.heap.size ≤ n) (O : Nat → Prop) (pre : List NdA) (A : World) (l : Nat) (r r' : Loop) (h : CnI w O pre A) (hl : A.heap[l]? = some (.loop r)) (hx : n ≤ l) : CnI w O pre (A.putObj l (.loop r')) :=
  ⟨h.b.trans (put_below A _ (by omega)), box_put h.r hl⟩
theorem cni_next {w W : World} {O : Nat → Prop} {pre : List NdA} {a : NdA} {B S : Nat} (hS : w.heap.size + 1 < S) (hI : CnI w O pre W) :
    KeepsFrom B W (W.setCell ⟨w.heap.size + 1, 0, none⟩ (.int .i64 ((pre.length : Int) + 1))) ∧ KbV S O W (W.setCell ⟨w.heap.size + 1, 0, none⟩ (.int .i64 ((pre.length : Int) + 1))) ∧
    ∃ O', CnI w O' (pre ++ [a]) (W.setCell ⟨w.heap.size + 1, 0, none⟩ (.int .i64 ((pre.length : Int) + 1))) ∧ ∀ k, O' k → (O k ∨ W.heap.size ≤ k) ∧ k < (W.setCell ⟨w.heap.size + 1, 0, none⟩ (.int .i64 ((pre.length : Int) + 1))).heap.size := by
  refine ⟨(KeepsOthers.setCell _ _ _).from _, ⟨by simp [World.setCell], fun k h1 h2 h3 => ?_⟩, fun _ => False, ⟨hI.b.setCell (p := ⟨w.heap.size + 1, 0, none⟩) (show w.heap.size ≤ w.heap.size + 1 by omega) _, ?_⟩, fun k hk => hk.elim⟩
  · exact Below.heap_setCell _ _ _ _ (show k ≠ w.heap.size + 1 by omega)
  · have := hI.r.set (.int .i64 ((pre.length : Int) + 1))
    rw [List.length_append]
    exact this
set_option maxRecDepth 100000 in
set_option maxHeartbeats 8000000 in
theorem nodes_cntU {w : World} {v : Value} {x : Va} (hv : VaRd w v x) (hp : vpts x ≤ 1048577) :
    Calls Tryz.prog 25 #[v] w fun e w' => e = .returned (.int .i64 (vnod x : Nat)) ∧ Below w.heap.size w w' := by
  have HPT := hide hp
  have HV := hide hv
  obtain ⟨⟨vm, vk, rfl, hm, hk⟩, hw⟩ := hv
  obtain ⟨mo, mc, rfl, -⟩ : ∃ ao cap, vm = .slice ao x.mag.length cap ∧ True := by obtain ⟨ao, cap, h, _⟩ := hm; exact ⟨ao, cap, h, trivial⟩
  obtain ⟨ko, kc, rfl, -⟩ := hk.len
  unfold vaV at HV ⊢
  obtain ⟨n0, hn0⟩ : ∃ n, x.mag.length = n := ⟨_, rfl⟩
  obtain ⟨l0, hl0⟩ : ∃ n, x.kids.length = n := ⟨_, rfl⟩
  obtain ⟨tx, htx⟩ : ∃ t, strOfNums x.text = t := ⟨_, rfl⟩
  rw [hn0, hl0, htx] at HV ⊢
  clear hp hm hk hw hn0 hl0 htx
  refine (callsIn_wide (n := 5)).1 ?_
  refine callsIn_of_wp_marks Tryz.func25 rfl trivial ?_ rfl
  simp only [Tryz.ntmps25, List.size_toArray, List.length_cons, List.length_nil, Nat.reduceAdd, Nat.reduceSub, Array.replicate_succ, Array.replicate_zero, List.push_toArray, List.append_toArray, List.nil_append, List.cons_append]
  gi_wp2_with fail
  refine ⟨trivial, (callsIn_wide.2 nodes_any).mono ?_⟩
  rintro e' w' ⟨rfl, rfl⟩
  have K : Below w.heap.size w (((w.alloc (.cells #[.int .i8 x.kind, .int .u64 x.n, .bool x.neg, .slice mo n0 mc, .int .u64 x.bits, .int .i8 x.ext, .string tx, .slice ko l0 kc] 31)).alloc (.cells #[.int .i64 0] 3)).alloc (.cells #[.int .i8 x.kind, .int .u64 x.n, .bool x.neg, .slice mo n0 mc, .int .u64 x.bits, .int .i8 x.ext, .string tx, .slice ko l0 kc] 31)) := (((Below.refl _ w).alloc (Nat.le_refl _) _).alloc (by simp) _).alloc (by simp; omega) _
  have bR := (Boxed.new (w.alloc (.cells #[.int .i8 x.kind, .int .u64 x.n, .bool x.neg, .slice mo n0 mc, .int .u64 x.bits, .int .i8 x.ext, .string tx, .slice ko l0 kc] 31)) 3 (.int .i64 0)).alloc (.cells #[.int .i8 x.kind, .int .u64 x.n, .bool x.neg, .slice mo n0 mc, .int .u64 x.bits, .int .i8 x.ext, .string tx, .slice ko l0 kc] 31)
  have bV := bx8_new ((w.alloc (.cells #[.int .i8 x.kind, .int .u64 x.n, .bool x.neg, .slice mo n0 mc, .int .u64 x.bits, .int .i8 x.ext, .string tx, .slice ko l0 kc] 31)).alloc (.cells #[.int .i64 0] 3)) (.int .i8 x.kind) (.int .u64 x.n) (.bool x.neg) (.slice mo n0 mc) (.int .u64 x.bits) (.int .i8 x.ext) (.string tx) (.slice ko l0 kc) 31
  simp only [World.size_alloc] at bR bV
  have hsz : (((w.alloc (.cells #[.int .i8 x.kind, .int .u64 x.n, .bool x.neg, .slice mo n0 mc, .int .u64 x.bits, .int .i8 x.ext, .string tx, .slice ko l0 kc] 31)).alloc (.cells #[.int .i64 0] 3)).alloc (.cells #[.int .i8 x.kind, .int .u64 x.n, .bool x.neg, .slice mo n0 mc, .int .u64 x.bits, .int .i8 x.ext, .string tx, .slice ko l0 kc] 31)).heap.size = w.heap.size + 1 + 1 + 1 := by simp
  have HR := hide bR
  have HBV := hide bV
  have HK := hide K
  have HS := hide hsz
  clear bR bV K hsz
  gi_wp2_with fail
  generalize (((w.alloc (.cells #[.int .i8 x.kind, .int .u64 x.n, .bool x.neg, .slice mo n0 mc, .int .u64 x.bits, .int .i8 x.ext, .string tx, .slice ko l0 kc] 31)).alloc (.cells #[.int .i64 0] 3)).alloc (.cells #[.int .i8 x.kind, .int .u64 x.n, .bool x.neg, .slice mo n0 mc, .int .u64 x.bits, .int .i8 x.ext, .string tx, .slice ko l0 kc] 31)) = w4 at *
  refine wpIn_rangeV rfl (by omega) (gf := 64) (lb := #[.pointer (some ⟨w.heap.size + 1 + 1, 0, none⟩)]) (by simp [go_sem]) trivial (enters_of Tryz.func64 (by kernel_rfl) rfl)
    (nodes_seq HV.out (by have := vnod_pts x; have := HPT.out; omega) HBV.out) rdn_put rdn_far (Below.refl _ _) (fun _ => rfl)
    (CnI w) (fun _ _ _ _ => False)
    (cni_frv (by have := HS.out; omega)) (fun _ _ _ _ _ h _ => h) (cni_put (by have := HS.out; omega)) (fun _ _ _ _ _ _ _ h _ _ => h)
    (fun O pre W1 h => h.b)
    ⟨HK.out, HR.out⟩
    (fun a act W => act = { tmps := #[.agg #[.int .i8 x.kind, .int .u64 x.n, .bool x.neg, .slice mo n0 mc, .int .u64 x.bits, .int .i8 x.ext, .string tx, .slice ko l0 kc], .pointer (some ⟨w.heap.size, 0, none⟩), .int .i64 0, .pointer (some ⟨w.heap.size + 1, 0, none⟩), .agg #[.int .i8 x.kind, .int .u64 x.n, .bool x.neg, .slice mo n0 mc, .int .u64 x.bits, .int .i8 x.ext, .string tx, .slice ko l0 kc], .func (.func 64) #[] #[.pointer (some ⟨w.heap.size + 1 + 1, 0, none⟩)], a.1.1, ndV a.1.2 a.2.2, undef, undef, undef], defers := [] })
    ?hat ?assign ?body ?done ?stop
  case hat =>
    intro x a' A l r r' h hl
    exact h
  case assign =>
    intro l x W K hK
    unfold encN
    simp only
    gi_wp2
    exact hK _ _ (Below.refl _ W) (by simp)
  case body =>
    rintro l O pre a1 a' W hI hr rfl hle
    have hpl : pre.length + 1 ≤ 1048577 := by
      have h1 : (pre ++ [a1]).map Prod.snd <+: preV [] x := by rw [List.map_append]; exact hr.2.2
      have h2 := h1.length_le
      rw [List.length_map, List.length_append, preV_len _ x (Nat.le_refl _) []] at h2
      have := vnod_pts x
      have := HPT.out
      simp at h2
      omega
    have wn : IntKind.i64.wrap ((pre.length : Int) + 1) = (pre.length : Int) + 1 := by rw [IntKind.wrap_i64]; omega
    have hc := hI.r.cell
    have hf := hI.r.frozen
    have HNX := hide (cni_next (a := a1) (B := w4.heap.size) (S := w4.heap.size + 2) (by have := HS.out; omega) hI)
    clear hI hr
    obtain ⟨va, hva⟩ : ∃ v, a1.1.1 = v := ⟨_, rfl⟩
    obtain ⟨vb, hvb⟩ : ∃ v, ndV a1.1.2 a1.2.2 = v := ⟨_, rfl⟩
    rw [hva, hvb]
    clear hva hvb hpl hle
    obtain ⟨pl, hpl⟩ : ∃ n, pre.length = n := ⟨_, rfl⟩
    rw [hpl] at hc wn HNX
    clear hpl
    gi_wp2_with fail
    gi_wp2
    exact HNX.out
  case done =>
    rintro D O ys W hD hys hI hK
    have hne : D ≠ w.heap.size + 1 := by have := HS.out; omega
    have hyl : ys.length = vnod x := by rw [← preV_len _ x (Nat.le_refl _) [], ← hys, List.length_map]
    have hr := hI.r
    rw [hyl] at hr
    have HB := hide hI.b
    have hc := hr.cell
    have hf := hr.frozen
    have HKK := hide hK
    clear hI hys hyl hK hr
    gi_wp2
    refine ⟨by simp, .inl ⟨_, _, rfl, run_takeDeferred HKK.out, ?_⟩⟩
    have hB2 : Below w.heap.size w (W.putObj D (.deferred none)) := HB.out.trans (put_below _ _ (by have := HS.out; omega))
    exact ⟨.int .i64 (vnod x : Nat), by simp [results, Tryz.results25, go_sem], rfl, hB2⟩
  case stop =>
    rintro D c O pre W hD hq h hK
    exact h.elim
theorem nodes_cnt {w : World} {v : Value} {x : Va} (hv : VaRd w v x) (hp : vpts x ≤ 1048576) :
    Calls Tryz.prog 25 #[v] w fun e w' => e = .returned (.int .i64 (vnod x : Nat)) ∧ Below w.heap.size w w' := nodes_cntU hv (by omega)
end Go.Proofs.YticmlelalbaalaaGreatDoor
