import Derived.Test.YticmlelalbaalaaGreatDoorB01
import Derived.Test.YticmlelalbaalaaGreatDoorB16
import Derived.Test.YticmlelalbaalaaGreatDoorB10
import Derived.Test.YticmlelalbaalaaGreatDoorB11
import Derived.Sort.CutIn
import Derived.Maps.AppendAt
namespace Go.Proofs.YticmlelalbaalaaGreatDoor
open Go.RowKit Go.Shelf
set_option linter.unusedVariables false
attribute [local go_sem] Oper.semAt_some
abbrev NdA := (Value × (Option Addr × Nat × Option Addr × Nat)) × (List Int × Va)
def ndV (q : Option Addr × Nat × Option Addr × Nat) (x : Va) : Value := vaV x (.slice q.1 x.mag.length q.2.1) (.slice q.2.2.1 x.kids.length q.2.2.2)
def encN (a : NdA) : Array Value := #[a.1.1, ndV a.1.2 a.2.2]
def RdN (root : Va) (pre : List NdA) (a : NdA) (W : World) : Prop := Reads .i64 W a.1.1 a.2.1 ∧ VaRd W (ndV a.1.2 a.2.2) a.2.2 ∧ (pre.map Prod.snd ++ [a.2]) <+: preV [] root
theorem put_cell {A : World} {l : Nat} {r r' : Loop} (h : A.heap[l]? = some (.loop r)) (p : Addr) : (A.putObj l (.loop r')).cell? p = A.cell? p := by
  by_cases e : p.block = l
  · subst e
    have hlt := (Array.getElem?_eq_some_iff.1 h).1
    simp [World.cell?, h, World.putObj_heap_same hlt]
  · exact World.cell?_of_block (World.putObj_heap_other e)
theorem Reads.cells {k : IntKind} {A B : World} {v : Value} {xs : List Int} (h : Reads k A v xs) (e : ∀ p, B.cell? p = A.cell? p) (hs : B.heap.size = A.heap.size) : Reads k B v xs := by
  obtain ⟨ao, cap, h1, h2, h3, h4⟩ := h
  refine ⟨ao, cap, h1, h2, h3, fun hp => ?_⟩
  obtain ⟨b, off, g1, g2, g3⟩ := h4 hp
  exact ⟨b, off, g1, by omega, fun i hi => (e _).trans (g3 i hi)⟩
theorem VaC.cells {A B : World} {b o : Nat} {x : Va} {vm vk : Value} (h : VaC A b o x vm vk) (e : ∀ p, B.cell? p = A.cell? p) : VaC B b o x vm vk :=
  ⟨(e _).trans h.c0, (e _).trans h.c1, (e _).trans h.c2, (e _).trans h.c3, (e _).trans h.c4, (e _).trans h.c5, (e _).trans h.c6, (e _).trans h.c7⟩
theorem VaSl.cells {A B : World} {v : Value} {xs : List Va} (h : VaSl A v xs) (e : ∀ p, B.cell? p = A.cell? p) (hs : B.heap.size = A.heap.size) : VaSl B v xs := by
  induction h with
  | mk ao cap xs ms vs hc hm hl hn hx hg hk ih =>
    refine .mk ao cap xs ms vs hc hm hl hn (fun hp => ?_) (fun i hi => ⟨(hg i hi).1.cells e hs, (hg i hi).2⟩) ih
    obtain ⟨b, off, h1, h2, h3⟩ := hx hp
    exact ⟨b, off, h1, by omega, fun i hi => (h3 i hi).cells e⟩
theorem VaRd.cells {A B : World} {v : Value} {x : Va} (h : VaRd A v x) (e : ∀ p, B.cell? p = A.cell? p) (hs : B.heap.size = A.heap.size) : VaRd B v x := by
  obtain ⟨⟨vm, vk, h1, h2, h3⟩, h4⟩ := h
  exact ⟨⟨vm, vk, h1, h2.cells e hs, h3.cells e hs⟩, h4⟩
theorem rdn_put {root : Va} (pre : List NdA) (x : NdA) (A : World) (l : Nat) (r r' : Loop) (h : RdN root pre x A) (hl : A.heap[l]? = some (.loop r)) : RdN root pre x (A.putObj l (.loop r')) :=
  ⟨h.1.cells (put_cell hl) (by simp), h.2.1.cells (put_cell hl) (by simp), h.2.2⟩
theorem rdn_far {root : Va} (pre : List NdA) (x : NdA) (A C : World) (h : RdN root pre x A) (hb : Below A.heap.size A C) : RdN root pre x C := ⟨h.1.below hb, h.2.1.far hb, h.2.2⟩
theorem own_rdi {w : World} {B : Nat} {k : IntKind} {E : TypeId} {v : Value} {n : Nat} {p : List Int} (hn : n = p.length) (h : w.ownsRow B E 1 v n (p.map (Value.int k))) : Reads k w v p := by
  subst hn
  obtain ⟨_, ⟨rfl, h0⟩ | ⟨g, cap, cur, rfl, h2, h3, h4, h5, h6, h7⟩⟩ := h
  · have : p = [] := List.eq_nil_of_length_eq_zero h0
    subst this
    exact ⟨none, 0, rfl, Nat.le_refl _, by unfold maxLen; omega, fun h => absurd h (by simp)⟩
  · refine ⟨_, cap, rfl, h4, h5, fun hp => ⟨g, 0, rfl, (Array.getElem?_eq_some_iff.1 h3).1, fun i hi => ?_⟩⟩
    have hi1 : i < cur.size := by omega
    have : cur.toList[i]? = some (Value.int k p[i]) := by
      have e := congrArg (fun l : List Value => l[i]?) h7
      rw [List.getElem?_take_of_lt (by omega), List.getElem?_map, List.getElem?_eq_getElem hi] at e
      exact e
    have hc : cur[i]? = some (Value.int k p[i]) := by rw [← this]; simp
    simp [World.cell?, h3, hc, Nt.lb, hi]
structure ItS (b l : Nat) (O : Nat → Prop) (W : World) (p : List Int) : Prop where
  y : Boxed W b 93 (.func (.yield l) #[] #[])
  q : ∃ v, Boxed W (b + 1) 61 v ∧ W.ownsRow b 3 1 v p.length (p.map (Value.int .i64)) ∧ ∀ k, v.ownBlock = some k → ¬ O k
  f : Boxed W (b + 1 + 1) 33 (.func (.func 65) #[] #[.pointer (some ⟨b, 0, none⟩), .pointer (some ⟨b + 1, 0, none⟩), .pointer (some ⟨b + 1 + 1, 0, none⟩)])
  no : ¬ O b ∧ ¬ O (b + 1) ∧ ¬ O (b + 1 + 1)
  lim : ∀ k, O k → k < W.heap.size
theorem own_in {B : Nat} {W : World} {e : TypeId} {s n : Nat} {v : Value} {xs : List Value} (h : W.ownsRow B e s v n xs) {k : Nat} (hk : v.ownBlock = some k) : B ≤ k ∧ k < W.heap.size := by
  obtain ⟨h0, ⟨rfl, _⟩ | ⟨g, cap, cur, rfl, h2, h3, h4⟩⟩ := h
  · cases hk
  · cases hk
    exact ⟨h2, (Array.getElem?_eq_some_iff.1 h3).1⟩
theorem own_keptV {B : Nat} {W W' : World} {e : TypeId} {s n : Nat} {v : Value} {xs : List Value} (h : W.ownsRow B e s v n xs) (st : ∀ k, v.ownBlock = some k → W'.heap[k]? = W.heap[k]?) : W'.ownsRow B e s v n xs := by
  obtain ⟨h0, h1 | ⟨g, cap, cur, rfl, h2, h3, h4⟩⟩ := h
  · exact ⟨h0, .inl h1⟩
  · exact ⟨h0, .inr ⟨g, cap, cur, rfl, h2, (st g rfl).trans h3, h4⟩⟩
theorem ItS.keep {b l : Nat} {O O' : Nat → Prop} {W W' : World} {p : List Int} (h : ItS b l O W p) (s : KbV b O W W') (ho : ∀ k, O' k → (O k ∨ W.heap.size ≤ k) ∧ k < W'.heap.size) : ItS b l O' W' p := by
  obtain ⟨h1, ⟨v, h2, h3, h5⟩, h4, ⟨n1, n2, n3⟩, hl⟩ := h
  have l1 := h1.lt
  have l2 := h2.lt
  have l4 := h4.lt
  have nt : ∀ k, k < W.heap.size → ¬ O k → ¬ O' k := fun k hk hn ho' => (ho k ho').1.elim hn (fun e => by omega)
  refine ⟨(s.2 b (Nat.le_refl _) l1 n1).trans h1, ⟨v, (s.2 (b + 1) (by omega) l2 n2).trans h2, own_keptV h3 (fun k hk => s.2 k (own_in h3 hk).1 (own_in h3 hk).2 (h5 k hk)), fun k hk => nt k (own_in h3 hk).2 (h5 k hk)⟩, (s.2 (b + 1 + 1) (by omega) l4 n3).trans h4, ⟨nt _ l1 n1, nt _ l2 n2, nt _ l4 n3⟩, fun k hk => (ho k hk).2⟩
theorem KbV.far {b : Nat} {O : Nat → Prop} {W W' : World} (h : Below W.heap.size W W') : KbV b O W W' := ⟨h.size, fun k _ hk _ => h.block k hk⟩
theorem ItS.far {b l : Nat} {O : Nat → Prop} {W W' : World} {p : List Int} (h : ItS b l O W p) (hb : Below W.heap.size W W') : ItS b l O W' p :=
  h.keep (KbV.far hb) (fun k hk => ⟨.inl hk, Nat.lt_of_lt_of_le (h.lim k hk) hb.size⟩)
theorem own_cut {w : World} {B : Nat} {E : TypeId} {g n cap : Nat} {l : List Int} {c : Int} {k : IntKind} (h : w.ownsRow B E 1 (.slice (some ⟨g, 0, none⟩) n cap) (l ++ [c]).length ((l ++ [c]).map (Value.int k))) :
    n = l.length + 1 ∧ n ≤ cap ∧ cap ≤ maxLen ∧ w.ownsRow B E 1 (.slice (some ⟨g, 0, none⟩) l.length cap) l.length (l.map (Value.int k)) := by
  rcases h.2 with ⟨h1, _⟩ | ⟨g', cap', cur, h1, hb, hg, hn, hcm, hcs, ht⟩
  · simp at h1
  · simp only [Value.slice.injEq, Option.some.injEq, Addr.mk.injEq, and_true] at h1
    obtain ⟨rfl, rfl, rfl⟩ := h1
    have hlen : (l ++ [c]).length = l.length + 1 := by simp
    refine ⟨hlen, hn, hcm, ?_⟩
    refine ⟨by simp, Or.inr ⟨g, cap, cur, rfl, hb, hg, by omega, hcm, hcs, ?_⟩⟩
    have := congrArg (List.take l.length) ht
    rw [List.take_take] at this
    rw [hlen] at this
    rw [show min l.length ((l.length + 1) * 1) = l.length * 1 by omega] at this
    rw [this, List.map_append, List.take_left' (by simp)]
theorem Tryz.infoI : (Tryz.prog.info? 3).map (fun i => (i.zero, i.size, i.bytes)) = some (some (.int .i64 0), 1, 8) := by kernel_rfl
theorem info_int : ∃ i, Tryz.prog.info? 3 = some i ∧ i.zero = some (.int .i64 0) ∧ i.size = 1 ∧ i.bytes = 8 := by
  obtain ⟨i, hi, h⟩ := Option.map_eq_some_iff.1 Tryz.infoI
  simp only [Prod.mk.injEq] at h
  exact ⟨i, hi, h.1, h.2.1, h.2.2⟩
theorem bx8_of {w : World} {b : Nat} {a0 a1 a2 a3 a4 a5 a6 a7 : Value} {t : TypeId} (h : w.heap[b]? = some (.cells #[a0, a1, a2, a3, a4, a5, a6, a7] t (0, 0))) : Bx8 w b a0 a1 a2 a3 a4 a5 a6 a7 := by
  refine ⟨?_, ?_, ?_, ?_, ?_, ?_, ?_, ?_⟩ <;> simp [World.cell?, h]
theorem wpListIn_append_at {F : Fence} {n : Nat} {P : Program} (w : World) {ops : Array Oper} {rest : List Oper} {o : Oper} {a : Act} {Q : Exit → Act → World → Prop}
    (hg : o.guard = none) (s x : Operand) (t : TypeId) (hop : o.op = Op.call { callee := Callee.builtin Builtin.append, args := #[s, x], argTypes := #[t, t] })
    (base : Nat) (e : TypeId) (i : TypeInfo) (z : Value) (size bytes : Nat) (h1 : P.underlying t = some (.slice e)) (h2 : P.info? e = some i) (h3 : i.zero = some z) (h4 : i.size = size) (h5 : i.bytes = bytes) (h6 : z.cells.size = size) (h7 : 0 < size)
    (v : Value) (k : Nat) (xs : List Value) (hs : a.eval s = v) (hown : w.ownsRow base e size v k xs) (ad : Addr) (m c : Nat) (news : List Value) (hx : a.eval x = .slice (some ad) m c) (hn : news.length = m * size)
    (hc : ∀ j u, news[j]? = some u → w.cell? (ad.add j) = some u) (h1c : ∀ u ∈ news, u.oneCell' = true) (b1 : k + m ≤ maxLen) (b2 : (k + m) * bytes ≤ 140737488355328) (b3 : base ≤ w.heap.size)
    (hK : ∀ v' w', w'.ownsRow base e size v' (k + m) (xs ++ news) → w.grownBy w' v.ownBlock → (v'.ownBlock = v.ownBlock ∨ v'.ownBlock = some w.heap.size) → wpListIn F n P ops Q rest (a.put o.dst v') w') :
    wpListIn F n P ops Q (o :: rest) a w := by
  refine wpListIn_plain hg fun K hK' => ?_
  obtain ⟨v', w', hrun, r1, r2, -, r3⟩ := run_append_own_at (P := P) w base t o.type e i z size bytes h1 h2 h3 h4 h5 h6 h7 v k xs hown ad m c news hn hc h1c b1 b2 b3
  unfold Oper.wpIn
  refine ⟨?_, ?_⟩
  · simp [Oper.about, hop, resolve, Target.leads, Sem.run_pure]
  · rw [Oper.semAt_plain F _ _ (by rw [hop]; intro c hc'; cases hc')]
    simp [execOp, hop, resolve, invoke, builtin, hs, hx, hrun, Result.andThen]
    exact hK' _ _ (hK v' w' r1 r2 r3)
def WkP (root : Va) (b l : Nat) (J Jx : (Nat → Prop) → List NdA → World → Prop) (x : Va) (p : List Int) (pre : List NdA) (e : Ending) (W' : World) : Prop :=
  (e = .returned (.bool true) ∧ ∃ (O : Nat → Prop) (xs : List NdA), xs.map Prod.snd = preV p x ∧ J O (pre ++ xs) W' ∧ ItS b l O W' p) ∨
  (e = .returned (.bool false) ∧ ∃ (O : Nat → Prop) (q : List NdA), q ≠ [] ∧ q.map Prod.snd <+: preV [] root ∧ Jx O q W')
set_option maxRecDepth 100000 in
set_option maxHeartbeats 8000000 in
theorem walk_any {root : Va} {l b n0 : Nat} {w00 : World} {J Jx : (Nat → Prop) → List NdA → World → Prop} (hJ : AbV b J) (hK : ∀ O pre W, J O pre W → Below w00.heap.size w00 W)
    (hY : ∀ O pre a W1, J O pre W1 → b ≤ W1.heap.size → RdN root pre a W1 → YieldAt Fence.wide n0 Tryz.prog l (encN a) W1 fun e W' => (e = .returned (.bool true) ∧ ∃ O', J O' (pre ++ [a]) W' ∧ KbV b O W1 W' ∧ ∀ k, O' k → (O k ∨ W1.heap.size ≤ k) ∧ k < W'.heap.size) ∨ (e = .returned (.bool false) ∧ ∃ O', Jx O' (pre ++ [a]) W')) :
    ∀ (N : Nat) (x : Va), SizeOf.sizeOf x ≤ N → ∀ (n : Nat) (v : Value) (p : List Int) (O : Nat → Prop) (pre : List NdA) (W : World), VaRd w00 v x → p.length + vnod x ≤ 1048578 → ItS b l O W p → J O pre W → (pre.map Prod.snd ++ preV p x) <+: preV [] root →
    CallsIn Fence.wide n Tryz.prog 65 #[v, .pointer (some ⟨b, 0, none⟩), .pointer (some ⟨b + 1, 0, none⟩), .pointer (some ⟨b + 1 + 1, 0, none⟩)] W (WkP root b l J Jx x p pre) := by
  have HJ := hide hJ
  have HK := hide hK
  have HY := hide hY
  clear hJ hK hY
  intro N
  induction N with
  | zero => intro x h; cases x; simp at h
  | succ N ih =>
    intro x hx n v p O pre W hv hsz hI hj hpr
    have IH := hide ih
    have HV := hide hv
    obtain ⟨⟨vm, vk, rfl, hm, hk⟩, hw⟩ := hv
    have HKS := hide hk
    obtain ⟨mo, mc, rfl, -⟩ : ∃ ao cap, vm = .slice ao x.mag.length cap ∧ True := by obtain ⟨ao, cap, h, _⟩ := hm; exact ⟨ao, cap, h, trivial⟩
    obtain ⟨ko, kc, rfl, -⟩ := hk.len
    have HX := hide hx
    have HSZ := hide hsz
    have HI := hide hI
    have HPR := hide hpr
    have HJ0 := hide hj
    have HW := hide hw
    clear ih hm hk hx hsz hpr hw
    refine callsIn_of_wp Tryz.func65 rfl trivial ?_ rfl
    simp only [Tryz.ntmps65, List.size_toArray, List.length_cons, List.length_nil, Nat.reduceAdd, Nat.reduceSub, Array.replicate_succ, Array.replicate_zero, List.push_toArray, List.append_toArray, List.nil_append, List.cons_append]
    have HV0 := hide (show VaRd w00 (ndV (mo, mc, ko, kc) x) x from HV.out)
    unfold vaV at HV ⊢
    obtain ⟨n1, hn1⟩ : ∃ n, x.mag.length = n := ⟨_, rfl⟩
    obtain ⟨l1, hl1⟩ : ∃ n, x.kids.length = n := ⟨_, rfl⟩
    obtain ⟨tx, htx⟩ : ∃ t, strOfNums x.text = t := ⟨_, rfl⟩
    rw [hn1, hl1, htx] at HV ⊢
    rw [hl1] at HKS
    have HN := hide hl1
    have l20 : l1 ≤ 1048578 := by have h1 := knod_len x.kids; have h2 := vnod_eq x; have := HSZ.out; omega
    have K : Below W.heap.size W (W.alloc (.cells #[.int .i8 x.kind, .int .u64 x.n, .bool x.neg, .slice mo n1 mc, .int .u64 x.bits, .int .i8 x.ext, .string tx, .slice ko l1 kc] 31)) := ((Below.refl _ _).alloc (Nat.le_refl _) _)
    have BX := bx8_new W (.int .i8 x.kind) (.int .u64 x.n) (.bool x.neg) (.slice mo n1 mc) (.int .u64 x.bits) (.int .i8 x.ext) (.string tx) (.slice ko l1 kc) 31
    have IT1 := hide (HI.out.far K)
    obtain ⟨vp, hq, ho, -⟩ := IT1.out.q
    have hrd := own_rdi rfl ho
    have hJ1 := HJ.out _ _ _ _ hj (FrV.of_below K)
    have hbl := hide (show b < W.heap.size by have := hI.y.lt; exact this)
    have ls : W.heap.size < (W.alloc (.cells #[.int .i8 x.kind, .int .u64 x.n, .bool x.neg, .slice mo n1 mc, .int .u64 x.bits, .int .i8 x.ext, .string tx, .slice ko l1 kc] 31)).heap.size := by simp
    have hy0 := IT1.out.y.cell
    have hq0 := hq.cell
    obtain ⟨fn, tmps, assign, body, hy, hR⟩ := yield_any (m := n - 1) (HY.out O pre ((vp, (mo, mc, ko, kc)), (p, x)) _ hJ1 (by have := hbl.out; simp; omega) ⟨hrd, HV0.out.far (HK.out _ _ _ hJ1), by
      have h := HPR.out
      rw [preV_eq] at h
      exact List.IsPrefix.trans ⟨preK p 0 x.kids, by simp⟩ h⟩)
    unfold encN ndV vaV at hy
    simp only [hn1, hl1, htx] at hy
    clear hn1 hl1 htx
    have HB8 := hide BX
    obtain ⟨z0, z1, z2, z3, z4, z5, z6, z7⟩ := BX
    clear K hq ho hrd hJ1 hj hI
    gi_wp2
    refine ⟨fun h => (by cases h), hR.mono ?_⟩
    rintro e W3 (⟨rfl, O3, hJ3, hS, hO3⟩ | ⟨rfl, O3, hx⟩)
    · have BX3 := HB8.out.same (hS.2 W.heap.size (Nat.le_of_lt hbl.out) ls (fun e => by have := HI.out.lim _ e; omega))
      obtain ⟨y0, y1, y2, y3, y4, y5, y6, y7⟩ := BX3
      have HJ3 := hide hJ3
      have IT3 := hide (IT1.out.keep hS hO3)
      clear hS hO3 z0 z1 z2 z3 z4 z5 z6 z7 hJ3 hy hR hy0 hq0
      gi_wp2
      gi_loopw [16] (fun i wr => ∃ (j : Nat) (Oj : Nat → Prop) (xs : List NdA), i = .int .i64 (j : Int) ∧ j ≤ l1 ∧ Hid (xs.map Prod.snd ++ preK p j (x.kids.drop j) = preV p x) ∧ Hid (J Oj (pre ++ xs) wr) ∧ Hid (ItS b l Oj wr p)) (fun i _ => l1 - (intOf i).toNat)
      case atStart => exact ⟨0, O3, [_], rfl, Nat.zero_le _, hide (by simp [preV_eq]), HJ3, IT3⟩
      case round =>
        obtain ⟨j, Oj, xs, rfl, hjl, HXS, HJx, HIx⟩ := hrel
        by_cases hlt : j < l1
        · have q : (j : Int) < (l1 : Int) := by omega
          have hjk : j < x.kids.length := by rw [HN.out]; exact hlt
          have KW := HK.out _ _ _ HJx.out
          obtain ⟨b2, o2, vm2, vk2, rfl, hb2, cc2, hm2, hk2, hw2⟩ := VaSl.at (ao := ko) (cap := kc) HKS.out (by rw [HN.out]) hjk
          have HXJ := hide (preK_at p x.kids hjk)
          have HVN := hide (knod_lt hjk)
          have HMEM := hide (List.getElem_mem hjk)
          obtain ⟨y, hyy⟩ : ∃ y, x.kids[j] = y := ⟨_, rfl⟩
          rw [hyy] at cc2 hm2 hk2 hw2 HXJ HVN HMEM
          clear hyy
          obtain ⟨mo2, mc2, rfl, -⟩ : ∃ ao cap, vm2 = .slice ao y.mag.length cap ∧ True := by obtain ⟨ao, cap, h, _⟩ := hm2; exact ⟨ao, cap, h, trivial⟩
          obtain ⟨ko2, kc2, rfl, -, -⟩ := hk2.len
          obtain ⟨n2, hn2⟩ : ∃ n, y.mag.length = n := ⟨_, rfl⟩
          obtain ⟨l2, hl2⟩ : ∃ n, y.kids.length = n := ⟨_, rfl⟩
          obtain ⟨ty, hty⟩ : ∃ t, strOfNums y.text = t := ⟨_, rfl⟩
          have RY : VaRd w00 (vaV y (.slice mo2 y.mag.length mc2) (.slice ko2 y.kids.length kc2)) y := ⟨⟨_, _, rfl, hm2, hk2⟩, hw2⟩
          unfold vaV at RY
          rw [hn2, hl2, hty] at RY
          rw [hn2, hl2] at cc2
          have RYH := hide RY
          obtain ⟨y0, y1, y2, y3, y4, y5, y6, y7⟩ := cc2.below KW hb2
          rw [hty] at y6
          clear hm2 hk2 hw2 hn2 hl2 hty cc2 RY KW hb2
          gi_upto_region 6 with fail
          obtain ⟨W5, hW5⟩ : ∃ W5, wr.alloc (.cells #[.int .i8 y.kind, .int .u64 y.n, .bool y.neg, .slice mo2 n2 mc2, .int .u64 y.bits, .int .i8 y.ext, .string ty, .slice ko2 l2 kc2] 31) = W5 := ⟨_, rfl⟩
          have K5 : Below wr.heap.size wr W5 := by rw [← hW5]; exact (Below.refl _ _).alloc (Nat.le_refl _) _
          have BY : W5.heap[wr.heap.size]? = some (.cells #[.int .i8 y.kind, .int .u64 y.n, .bool y.neg, .slice mo2 n2 mc2, .int .u64 y.bits, .int .i8 y.ext, .string ty, .slice ko2 l2 kc2] 31 (0, 0)) := by rw [← hW5]; exact World.alloc_heap_new _ _
          have IT5 := HIx.out.far K5
          have HJ5 := hide (HJ.out _ _ _ _ HJx.out (FrV.of_below K5))
          rw [hW5]
          clear hW5 y0 y1 y2 y3 y4 y5 y6 y7
          obtain ⟨i0, hi0, hz0, hz1, hz2⟩ := info_int
          obtain ⟨hY5, ⟨v5, hq5, ho5, hn5⟩, hF5, hno5, hlim5⟩ := IT5
          have HN5 := hide (And.intro hn5 (And.intro hno5 hlim5))
          have hc5 := hq5.cell
          have bs := hY5.lt
          have hpl : p.length ≤ 1048577 := by have := HSZ.out; have := vnod_pos x; omega
          have HHY := hide hY5
          have HHF := hide hF5
          have HBY := hide BY
          have hby5 := hide (show some wr.heap.size ≠ v5.ownBlock from by
            intro e
            rcases ho5.2 with ⟨rfl, _⟩ | ⟨g, cap, cur, rfl, _, hg, _⟩
            · cases e
            · obtain rfl : wr.heap.size = g := by simpa [Value.ownBlock] using e
              have h2 := BY.symm.trans hg
              simp at h2)
          have hwb := hide (show b + 1 ≠ wr.heap.size from by
            intro e
            have := HIx.out.f.lt
            omega)
          clear hY5 hF5 BY K5 hn5 hno5 hlim5
          gi_wp2_with (gi_at_builtin; refine Hid.out ?_)
          refine hide ?_
          refine wpListIn_append_at _ rfl _ _ 61 rfl b 3 i0 (.int .i64 0) 1 8 Tryz.underlying61 hi0 hz0 hz1 hz2 rfl (by decide) _ _ _ rfl (ho5.alloc _) ⟨W5.heap.size, 0, none⟩ 1 1 [.int .i64 (j : Int)] rfl rfl (cell_one_new _ _ _) (by simp [Value.oneCell']) (by unfold maxLen; omega) (by omega) (by simp; omega) ?_
          intro v' w1 hown' hgrow hat
          obtain ⟨g', cap', rfl⟩ := ownsRow_succ hown'
          obtain ⟨hv1, hv2, hr2, hk2, hb2⟩ := hq5.appended (by decide) ho5 (Nat.le_of_lt bs) (by omega) hown' hgrow
          have hc1 := hv1.cell
          have hf1 := hv1.frozen
          have FY := hide (((HHY.out.alloc _).kept hgrow (HHY.out.not_row (by decide) ho5)).other (B' := b + 1) (by omega) (.slice (some ⟨g', 0, none⟩) (p.length + 1) cap'))
          have FF := hide (((HHF.out.alloc _).kept hgrow (HHF.out.not_row (by decide) ho5)).other (B' := b + 1) (by omega) (.slice (some ⟨g', 0, none⟩) (p.length + 1) cap'))
          have FB := hide (show (w1.setCell ⟨b + 1, 0, none⟩ (.slice (some ⟨g', 0, none⟩) (p.length + 1) cap')).heap[wr.heap.size]? = _ from (Below.heap_setCell _ _ _ _ (Ne.symm hwb.out)).trans ((hgrow.block _ (by have := (Array.getElem?_eq_some_iff.1 HBY.out).1; simp; omega) hby5.out).trans ((Below.heap_alloc _ _ _ (Array.getElem?_eq_some_iff.1 HBY.out).1).trans HBY.out)))
          have FQ := hide hv2
          have FR := hide hr2
          have FK := hide (show FrV b Oj W5 (w1.setCell ⟨b + 1, 0, none⟩ (.slice (some ⟨g', 0, none⟩) (p.length + 1) cap')) from ⟨hb2.os, hb2.tape, hb2.output, hb2.size, fun k hk ho => ho.elim (fun h => hb2.block k h) (fun h => (Below.heap_setCell _ _ _ _ (show k ≠ b + 1 from fun e => HN5.out.2.1.2.1 (e ▸ h))).trans ((hgrow.block _ (by simp; omega) (fun e => HN5.out.1 k e.symm h)).trans (Below.heap_alloc _ _ _ hk)))⟩)
          have FG := hide (show ∀ k, (Value.slice (some ⟨g', 0, none⟩) (p.length + 1) cap').ownBlock = some k → ¬ Oj k from fun k hk ho => by
            have hkw := HN5.out.2.2 k ho
            rcases hat with h | h
              <;> rw [h] at hk
            · exact HN5.out.1 k hk ho
            · simp only [Option.some.injEq, World.size_alloc] at hk
              omega)
          have FL := hide (show ∀ k, Oj k → k < (w1.setCell ⟨b + 1, 0, none⟩ (.slice (some ⟨g', 0, none⟩) (p.length + 1) cap')).heap.size from fun k hk => by have := HN5.out.2.2 k hk; have := hb2.size; omega)
          clear hv2 hr2 hk2 hb2 hgrow hown'
          gi_upto_region 7 with fail
          obtain ⟨W7, hW7⟩ : ∃ W7, w1.setCell ⟨b + 1, 0, none⟩ (.slice (some ⟨g', 0, none⟩) (p.length + 1) cap') = W7 := ⟨_, rfl⟩
          rw [hW7] at FY FF FB FQ FR FK FL
          have HJ7 := hide (HJ.out _ _ _ _ HJ5.out FK.out)
          have IT7 := hide (show ItS b l Oj W7 (p ++ [(j : Int)]) from ⟨FY.out, ⟨_, FQ.out, by simpa using FR.out, FG.out⟩, FF.out, HN5.out.2.1, FL.out⟩)
          obtain ⟨z0, z1, z2, z3, z4, z5, z6, z7⟩ := bx8_of FB.out
          have cf := FF.out.cell
          rw [hW7]
          clear hW7 FY FF FB FQ FR FK FG FL HN5 HHY HHF HBY hby5 hwb hc1 hf1 hv1 hq5 ho5 hc5
          gi_wp2_with fail
          refine ⟨trivial, fun h => (by cases h), (IH.out y (by have := Va.kid_lt HMEM.out; have := HX.out; omega) _ _ (p ++ [(j : Int)]) Oj (pre ++ xs) W7 RYH.out ?_ IT7.out HJ7.out ?_).mono ?_⟩
          · have := HSZ.out
            have := HVN.out
            simp only [List.length_append, List.length_cons, List.length_nil]
            omega
          · have h1 := HXS.out
            rw [HXJ.out] at h1
            have h2 := HPR.out
            rw [← h1] at h2
            refine List.IsPrefix.trans ⟨preK p (j + 1) (x.kids.drop (j + 1)), ?_⟩ h2
            simp
          · rintro e W8 (⟨rfl, O8, xs', hx1, hJ8, hI8⟩ | ⟨rfl, O8, q', hq1, hq2, hq3⟩)
            · obtain ⟨h8y, ⟨v8, hq8, ho8, hn8⟩, h8f, hno8, hlim8⟩ := hI8
              obtain ⟨g8, c8, rfl⟩ := ownsRow_succ (k := p.length) (by simpa using ho8)
              obtain ⟨-, e2, e3, ho9⟩ := own_cut ho8
              have HQ := hide hq8
              have HO := hide (show (W8.setCell ⟨b + 1, 0, none⟩ (.slice (some ⟨g8, 0, none⟩) p.length c8)).ownsRow b 3 1 (.slice (some ⟨g8, 0, none⟩) p.length c8) p.length (p.map (Value.int .i64)) from ho9.kept (grownBy_setCell' _ _ _) (.inr (hq8.not_row (by decide) ho9).symm))
              have HF := hide (h8f.other (B' := b + 1) (by omega) (.slice (some ⟨g8, 0, none⟩) p.length c8))
              have HY8 := hide (h8y.other (B' := b + 1) (by omega) (.slice (some ⟨g8, 0, none⟩) p.length c8))
              have HJ8 := hide (HJ.out _ _ _ _ hJ8 (show FrV b O8 W8 (W8.setCell ⟨b + 1, 0, none⟩ (.slice (some ⟨g8, 0, none⟩) p.length c8)) from ⟨rfl, rfl, rfl, by simp [World.setCell], fun k hk ho => Below.heap_setCell _ _ _ _ (show k ≠ b + 1 from ho.elim (fun h => by omega) (fun h e => hno8.2.1 (e ▸ h)))⟩))
              have HN8 := hide (show (∀ k, (Value.slice (some ⟨g8, 0, none⟩) p.length c8).ownBlock = some k → ¬ O8 k) ∧ (¬ O8 b ∧ ¬ O8 (b + 1) ∧ ¬ O8 (b + 1 + 1)) ∧ ∀ k, O8 k → k < (W8.setCell ⟨b + 1, 0, none⟩ (.slice (some ⟨g8, 0, none⟩) p.length c8)).heap.size from ⟨hn8, hno8, fun k hk => by have := hlim8 k hk; simpa [World.setCell] using this⟩)
              have cc8 := hq8.cell
              have f8 := hq8.frozen
              have HX1 := hide hx1
              obtain ⟨L, hL⟩ : ∃ L, p.length = L := ⟨_, rfl⟩
              rw [hL] at HO HF HY8 HJ8 HQ HN8 e2 cc8 ⊢
              have HL := hide hL
              have b1 : ((L + 1 : Nat) : Int) - 1 = (L : Int) := by omega
              have b2 : (0 : Int) ≤ (L : Int) := by omega
              have b3 : (L : Int) ≤ (c8 : Int) := by omega
              have b4 : (L : Int) ≤ 9223372036854775807 := by unfold maxLen at e3; omega
              clear hn8 hno8 hlim8 hq8 ho8 ho9 h8f h8y hJ8 hx1 hL z0 z1 z2 z3 z4 z5 z6 z7 cf e2 e3
              gi_wp2
              go_roundw
              case rel => exact ⟨j + 1, O8, xs ++ xs', by simp, by omega, hide (by rw [List.map_append, HX1.out, List.append_assoc, ← HXJ.out]; exact HXS.out), hide (by rw [← List.append_assoc]; exact HJ8.out), hide ⟨HY8.out, ⟨_, HQ.out.set _, by rw [HL.out]; exact HO.out, HN8.out.1⟩, HF.out, HN8.out.2.1, HN8.out.2.2⟩⟩
              case measure => simp [intOf]; omega
            · clear z0 z1 z2 z3 z4 z5 z6 z7 cf
              gi_wp2
              go_ret
              exact .inr ⟨rfl, O8, q', hq1, hq2, hq3⟩
        · have q : ¬ (j : Int) < (l1 : Int) := by omega
          gi_wp2
          go_ret
          refine .inl ⟨rfl, Oj, xs, ?_, HJx.out, HIx.out⟩
          have h := HXS.out
          rw [preK_end p x.kids (by rw [HN.out]; omega), List.append_nil] at h
          exact h
    · clear z0 z1 z2 z3 z4 z5 z6 z7 hy hR hy0 hq0
      gi_wp2
      go_ret
      refine .inr ⟨rfl, O3, _, ?_, ?_, hx⟩
      · simp
      · have h := HPR.out
        rw [preV_eq] at h
        rw [List.map_append]
        exact List.IsPrefix.trans ⟨preK p 0 x.kids, by simp⟩ h
set_option maxRecDepth 100000 in
set_option maxHeartbeats 4000000 in
theorem nodes_seq {n Bn : Nat} {root : Va} {a0 a1 a2 a3 a4 a5 a6 a7 : Value} {w00 w : World} (hv : VaRd w00 (.agg #[a0, a1, a2, a3, a4, a5, a6, a7]) root) (hn : vnod root ≤ 1048578) (hb : Bx8 w Bn a0 a1 a2 a3 a4 a5 a6 a7) :
    SeqV Fence.wide n Tryz.prog 64 #[.pointer (some ⟨Bn, 0, none⟩)] encN (RdN root) (fun xs => xs.map Prod.snd = preV [] root) (fun q => q ≠ [] ∧ q.map Prod.snd <+: preV [] root) (Below w00.heap.size w00) w := by
  intro l J Jx W hW hJ hJx hY hK h0
  have HW := hide (hb.below hW hb.lt)
  have HY := hide hY
  have HJ := hide hJ
  have HK1 := hide hK
  have h0' := hide h0
  have HV := hide hv
  have hlt : Bn < W.heap.size := Nat.lt_of_lt_of_le hb.lt hW.size
  clear hb hW hY hJ hJx h0 hK hv
  refine callsIn_of_wp Tryz.func64 rfl trivial ?_ rfl
  simp only [Tryz.ntmps64, List.size_toArray, List.length_cons, List.length_nil, Nat.reduceAdd, Nat.reduceSub, Array.replicate_succ, Array.replicate_zero, List.push_toArray, List.append_toArray, List.nil_append, List.cons_append]
  have bY := Boxed.new W 93 (.func (.yield l) #[] #[])
  have bP := Boxed.new (W.alloc (.cells #[.func (.yield l) #[] #[]] 93)) 61 (.slice none 0 0)
  have bF := Boxed.new ((W.alloc (.cells #[.func (.yield l) #[] #[]] 93)).alloc (.cells #[.slice none 0 0] 61)) 33 .nilFunc
  rw [World.size_alloc] at bP
  rw [World.size_alloc, World.size_alloc] at bF
  have hcF := bF.cell
  have hfF := bF.frozen
  have K : Below W.heap.size W (((W.alloc (.cells #[.func (.yield l) #[] #[]] 93)).alloc (.cells #[.slice none 0 0] 61)).alloc (.cells #[.nilFunc] 33)) := (((Below.refl _ W).alloc (Nat.le_refl _) _).alloc (by simp) _).alloc (by simp; omega) _
  have hsF := bF.set (.func (.func 65) #[] #[.pointer (some ⟨W.heap.size, 0, none⟩), .pointer (some ⟨W.heap.size + 1, 0, none⟩), .pointer (some ⟨W.heap.size + 1 + 1, 0, none⟩)])
  have hst := store_fn (P := Tryz.prog) (f := .func 65) (y := #[.pointer (some ⟨W.heap.size, 0, none⟩), .pointer (some ⟨W.heap.size + 1, 0, none⟩), .pointer (some ⟨W.heap.size + 1 + 1, 0, none⟩)]) hcF hfF
  have HBY := hide (((bY.alloc (.cells #[.slice none 0 0] 61)).alloc (.cells #[.nilFunc] 33)).kept (grownBy_setCell' _ (W.heap.size + 1 + 1) (.func (.func 65) #[] #[.pointer (some ⟨W.heap.size, 0, none⟩), .pointer (some ⟨W.heap.size + 1, 0, none⟩), .pointer (some ⟨W.heap.size + 1 + 1, 0, none⟩)])) (by simp; omega))
  have HBP := hide ((bP.alloc (.cells #[.nilFunc] 33)).kept (grownBy_setCell' _ (W.heap.size + 1 + 1) (.func (.func 65) #[] #[.pointer (some ⟨W.heap.size, 0, none⟩), .pointer (some ⟨W.heap.size + 1, 0, none⟩), .pointer (some ⟨W.heap.size + 1 + 1, 0, none⟩)])) (by simp))
  replace K := K.setCell (p := ⟨W.heap.size + 1 + 1, 0, none⟩) (show W.heap.size ≤ W.heap.size + 1 + 1 by omega) (.func (.func 65) #[] #[.pointer (some ⟨W.heap.size, 0, none⟩), .pointer (some ⟨W.heap.size + 1, 0, none⟩), .pointer (some ⟨W.heap.size + 1 + 1, 0, none⟩)])
  clear bY bP bF hcF hfF
  generalize hU : (((W.alloc (.cells #[.func (.yield l) #[] #[]] 93)).alloc (.cells #[.slice none 0 0] 61)).alloc (.cells #[.nilFunc] 33)).setCell ⟨W.heap.size + 1 + 1, 0, none⟩ (.func (.func 65) #[] #[.pointer (some ⟨W.heap.size, 0, none⟩), .pointer (some ⟨W.heap.size + 1, 0, none⟩), .pointer (some ⟨W.heap.size + 1 + 1, 0, none⟩)]) = U at *
  clear hU
  obtain ⟨z0, z1, z2, z3, z4, z5, z6, z7⟩ := HW.out.below K hlt
  have hc := hsF.cell
  have HIT := hide (show ItS W.heap.size l (fun _ => False) U [] from ⟨HBY.out, ⟨_, HBP.out, World.ownsRow_nil _ _ _ _, fun _ _ h => h⟩, hsF, ⟨fun h => h, fun h => h, fun h => h⟩, fun _ h => h.elim⟩)
  have HJU := hide (HJ.out _ _ _ _ h0'.out (FrV.of_below K))
  clear K hsF
  gi_wp2_with fail
  refine ⟨trivial, fun h => (by cases h), (walk_any (n0 := n - 1) HJ.out HK1.out (fun O pre a W1 h1 h2 h3 => HY.out O pre a W1 h1 h2 h3) _ root (Nat.le_refl _) _ _ [] _ [] U HV.out (by simpa using hn) HIT.out HJU.out (by simp)).mono ?_⟩
  rintro e W3 (⟨rfl, O, xs, h1, h2, -⟩ | ⟨rfl, O, q, h1, h2, h3⟩)
  · gi_wp2
    go_end0
    exact ⟨⟨_, rfl⟩, .inl ⟨O, xs, h1, by simpa using h2⟩⟩
  · gi_wp2
    go_end0
    exact ⟨⟨_, rfl⟩, .inr ⟨O, q, ⟨h1, h2⟩, h3⟩⟩
end Go.Proofs.YticmlelalbaalaaGreatDoor
