import Derived.Test.YticmlelalbaalaaGreatDoorB46
import Derived.Test.YticmlelalbaalaaGreatDoorB37
import Derived.Test.YticmlelalbaalaaGreatDoorB45
import Derived.Test.YticmlelalbaalaaGreatDoorB25
import Derived.Test.YticmlelalbaalaaGreatDoorB19
namespace Go.Proofs.YticmlelalbaalaaGreatDoor
open List (setIfInBounds_toArray set_cons_zero set_cons_succ)
open Go.RowKit Go.Shelf
set_option linter.unusedVariables false
set_option linter.unusedSimpArgs false
theorem ba_inj {s t : ByteArray} (h : s.toList = t.toList) : s = t := by
  rw [ByteArray.toList_eq, ByteArray.toList_eq] at h
  cases s with
  | mk s => cases t with
    | mk t => exact congrArg ByteArray.mk (Array.toList_inj.1 h)
def evA (a : Nat → Addr) (i : Nat) : Value := .iface 267 (.pointer (some (a i)))
theorem che {w : World} {a : Nat → Addr} (L : Lays w) (T : Brn w) (U : Uss w) (P : PtW w) (hS : Snt w a) : ChE w (evA a) :=
  ⟨L, T, U, P, ⟨_, _, rfl⟩, ⟨_, _, rfl⟩, ⟨_, _, rfl⟩, hS.cell 0 (by omega), hS.cell 2 (by omega), hS.cell 4 (by omega)⟩
theorem fpcode {w : World} {a : Nat → Addr} {g m : Nat} {k : Int} {s : ByteArray} (hS : Snt w a) (hH : Hnd w) (hm : m < 11) (h : FltAt w g (evA a m) k s) :
    Calls Tryz.prog 16 #[.iface 62 (.pointer (some ⟨g, 0, none⟩))] w fun e w' => e = .returned (.int .i64 ((m : Int) + 1)) ∧ Below w.heap.size w w' := by
  obtain ⟨u, x, r, e, h1, h2, h3⟩ := er_flt hS hH (m := m) (by omega) h
  cases e
  refine (hcode_any hS h1).mono ?_
  rintro e w' ⟨rfl, hb⟩
  refine ⟨?_, hb⟩
  rw [hcB_dec, if_pos (by omega)]
set_option maxHeartbeats 2000000 in
set_option maxRecDepth 100000 in
theorem ispath1 {w : World} {a : Nat → Addr} {g : Nat} {s t : ByteArray} (hS : Snt w a) (hH : Hnd w) (h : FltAt w g (evA a 0) 0 s) :
    Calls Tryz.prog 17 #[.iface 62 (.pointer (some ⟨g, 0, none⟩)), .int .i64 1, .string t] w fun e w' => e = .returned (.bool (decide (s = t))) ∧ Below w.heap.size w w' := by
  have CC := hide (fpcode hS hH (m := 0) (by omega) h)
  obtain ⟨u, x, r, e, h1, h2, h3⟩ := er_flt hS hH (m := 0) (by omega) h
  cases e
  have HA := hide h2
  have HT := hide h3
  clear h h1 h2 h3 hS hH
  go_enter Tryz.func17, Tryz.ntmps17
  go_wp2_with fail
  refine CC.out.mono ?_
  rintro e w1 ⟨rfl, hb1⟩
  have HB1 := hide hb1
  have CAt := hide (hat_any (HA.out.below hb1) (HT.out.below hb1))
  clear hb1 CC
  go_wp2_with fail
  refine CAt.out.mono ?_
  rintro e w2 ⟨rfl, hb2⟩
  have HB2 := hide (HB1.out.trans (hb2.mono HB1.out.size))
  have CP := hide (hpath_any (HA.out.below HB2.out) (HT.out.below HB2.out))
  clear hb2 CAt HB1
  simp only [atV]
  go_wp2_with fail
  refine CP.out.mono ?_
  rintro e w3 ⟨rfl, hb3⟩
  have HB3 := hide (HB2.out.trans (hb3.mono HB2.out.size))
  clear hb3 CP HB2
  simp only [pathV]
  by_cases hk : s = t
  · subst hk
    go_wp2
    go_ret
    exact ⟨by simp, HB3.out⟩
  · go_wp2
    go_ret
    exact ⟨by simp [hk]; exact fun e => hk (ba_inj e), HB3.out⟩
theorem isat3 {w : World} {a : Nat → Addr} {g : Nat} {k z : Int} (hS : Snt w a) (hH : Hnd w) (h : FlA w g (evA a 2) k) :
    Calls Tryz.prog 40 #[.iface 62 (.pointer (some ⟨g, 0, none⟩)), .int .i64 3, .int .i64 z] w fun e w' => e = .returned (.bool (decide (k = z))) ∧ Below w.heap.size w w' :=
  f3isat z ⟨g, rfl, h⟩ hS hH
theorem own_made {W : World} {B g n s : Nat} {t : TypeId} {xs : List Value} (h : W.heap[g]? = some (.cells xs.toArray t (0, 0))) (hB : B ≤ g) (hn : xs.length = n * s) (hm : n ≤ maxLen) : W.ownsRow B t s (.slice (some ⟨g, 0, none⟩) n n) n xs :=
  ⟨hn, .inr ⟨g, n, xs.toArray, rfl, hB, h, Nat.le_refl _, hm, by simpa using hn, by rw [← hn]; simp⟩⟩
theorem rd_nil (w : World) : Reads .u32 w (.slice none 0 0) [] := LbOn.reads (B := 0) (World.ownsRow_nil _ _ _ _)
theorem sl_nil (w : World) : VaSl w (.slice none 0 0) [] := own_vasl (zs := []) (B := 0) (by simp) (World.ownsRow_nil _ _ _ _) (fun q h => by cases h)
theorem wf_tx {es : List Int} (h : Byt es) (hl : es.length ≤ 1000) : VaW (txV es) := by
  unfold txV
  constructor <;> simp only [Va.kind, Va.n, Va.bits, Va.ext, Va.text, Va.mag, List.length_nil] <;> first | exact h | decide | omega | (exact fun i => by simp [Nt.lb])
theorem good_tx {es : List Int} (h : Byt es) (hl : es.length ≤ 1000) (w : World) : GoodV w (txV es, .slice none 0 0, .slice none 0 0) := ⟨rd_nil w, wf_tx h hl, sl_nil w⟩
theorem wf_wh {n : Int} (h0 : 0 ≤ n) (h1 : n < 4294967296) : VaW (whV n) := by
  unfold whV
  constructor <;> simp only [Va.kind, Va.n, Va.bits, Va.ext, Va.text, Va.mag, List.length_nil] <;> first | decide | (exact fun i => by split <;> (try simp [Nt.lb]) <;> (cases i <;> simp <;> omega)) | (split <;> simp) | (intro z hz; cases hz)
theorem good_wh {n : Int} (h0 : 0 ≤ n) (h1 : n < 4294967296) {w : World} {vm : Value} (hr : Reads .u32 w vm (whV n).mag) : GoodV w (whV n, vm, .slice none 0 0) := ⟨hr, wf_wh h0 h1, sl_nil w⟩
theorem txt14 {w : World} (es : List Int) {s : ByteArray} (hs : strOfNums es = s) : Calls Tryz.prog 37 #[.string s] w fun e w' => e = .returned (vaV (txV es) (.slice none 0 0) (.slice none 0 0)) ∧ Below w.heap.size w w' := by
  subst hs
  exact (text14 (strOfNums es)).mono fun e w' h => ⟨h.1, h.2⟩
theorem clgd_made {W : World} {g n : Nat} {zs : List (Va × Value × Value)} (h : W.heap[g]? = some (.cells (flatV zs).toArray 31 (0, 0))) (hg : ∀ q ∈ zs, GoodV W q) (hn : zs.length = n) (hm : n ≤ 1048577) : ClGd W (.slice (some ⟨g, 0, none⟩) n n) zs ∧ VaSl W (.slice (some ⟨g, 0, none⟩) n n) (zs.map Prod.fst) := by
  subst hn
  have ho := own_made (B := 0) (s := 8) h (Nat.zero_le _) (by rw [flatV_len]) (by unfold maxLen; omega)
  have e : clF (zs.map clQ) = flatV zs := by
    clear ho h hm
    induction zs with
    | nil => rfl
    | cons q zs ih => rw [List.map_cons, clF_cons, flatV_cons, clQ_L (hg q List.mem_cons_self), ih (fun q' hq' => hg q' (List.mem_cons_of_mem _ hq'))]
  have hr := own_range ho
  rw [← e] at hr
  refine ⟨⟨⟨some ⟨g, 0, none⟩, zs.length, by rw [List.length_map], fun h0 => ⟨g, 0, rfl, (Array.getElem?_eq_some_iff.1 h).1, fun i c hc => ?_⟩⟩, hg⟩, own_vasl hm ho hg⟩
  obtain ⟨hi, rfl⟩ := List.getElem?_eq_some_iff.1 hc
  exact clF_range hr i hi
theorem wpList_bs4 {ops : Array Oper} {rest : List Oper} {o : Oper} {a : Act} {w : World} {Q : Exit → Act → World → Prop} (hgd : o.guard = none) (y0 y1 y2 y3 : Operand) (ho : o.op = .buildSlice 29 4 #[(0, y0), (1, y1), (2, y2), (3, y3)]) (x0 x1 x2 x3 : Va) {m0 k0 m1 k1 m2 k2 m3 k3 : Value}
    (h0 : a.eval y0 = vaV x0 m0 k0) (h1 : a.eval y1 = vaV x1 m1 k1) (h2 : a.eval y2 = vaV x2 m2 k2) (h3 : a.eval y3 = vaV x3 m3 k3)
    (h : wpList Tryz.prog ops Q rest (a.put o.dst (.slice (some ⟨w.heap.size, 0, none⟩) 4 4)) (w.alloc (.cells (flatV [(x0, m0, k0), (x1, m1, k1), (x2, m2, k2), (x3, m3, k3)]).toArray 31))) : wpList Tryz.prog ops Q (o :: rest) a w := by
  obtain ⟨i0, hi, hz0, hz1, hz2⟩ := info_va
  refine wpList_buildSlice hgd 29 31 4 _ ho _ i0 _ Tryz.underlying29 hi hz0 (by rw [hz1]; decide) (by rw [hz1]; decide) ?_ h
  rw [hz1]
  simp only [List.map_toArray, List.map_cons, List.map_nil, h0, h1, h2, h3]
  exact (Go.Great.fill_whole (s := 8) (by decide) [vaV x0 m0 k0, vaV x1 m1 k1, vaV x2 m2 k2, vaV x3 m3 k3] _ (fun v hv => by
    simp only [List.mem_cons, List.not_mem_nil, or_false] at hv
    rcases hv with rfl | rfl | rfl | rfl <;> rfl) (by simp)).trans (by simp [vaV, vaL, flatV, Value.cells])
theorem wpList_bs2 {ops : Array Oper} {rest : List Oper} {o : Oper} {a : Act} {w : World} {Q : Exit → Act → World → Prop} (hgd : o.guard = none) (y0 y1 : Operand) (ho : o.op = .buildSlice 29 2 #[(0, y0), (1, y1)]) (x0 x1 : Va) {m0 k0 m1 k1 : Value}
    (h0 : a.eval y0 = vaV x0 m0 k0) (h1 : a.eval y1 = vaV x1 m1 k1)
    (h : wpList Tryz.prog ops Q rest (a.put o.dst (.slice (some ⟨w.heap.size, 0, none⟩) 2 2)) (w.alloc (.cells (flatV [(x0, m0, k0), (x1, m1, k1)]).toArray 31))) : wpList Tryz.prog ops Q (o :: rest) a w := by
  obtain ⟨i0, hi, hz0, hz1, hz2⟩ := info_va
  refine wpList_buildSlice hgd 29 31 2 _ ho _ i0 _ Tryz.underlying29 hi hz0 (by rw [hz1]; decide) (by rw [hz1]; decide) ?_ h
  rw [hz1]
  simp only [List.map_toArray, List.map_cons, List.map_nil, h0, h1]
  exact (Go.Great.fill_whole (s := 8) (by decide) [vaV x0 m0 k0, vaV x1 m1 k1] _ (fun v hv => by
    simp only [List.mem_cons, List.not_mem_nil, or_false] at hv
    rcases hv with rfl | rfl <;> rfl) (by simp)).trans (by simp [vaV, vaL, flatV, Value.cells])
theorem whole_is {w : World} (n : Int) (h0 : 0 ≤ n) (h1 : n < 4294967296) : Calls Tryz.prog 38 #[.int .u32 n] w fun e w' => (∃ ao c, e = .returned (vaV (whV n) (.slice ao (whV n).mag.length c) (.slice none 0 0)) ∧ GoodV w' (whV n, .slice ao (whV n).mag.length c, .slice none 0 0)) ∧ Below w.heap.size w w' :=
  (whole14 n h0 h1).mono fun e w' h => by
    obtain ⟨⟨vm, rfl, hr⟩, hb⟩ := h
    have hr' := hr
    obtain ⟨ao, c, rfl, -⟩ := hr
    exact ⟨⟨ao, c, rfl, good_wh h0 h1 hr'⟩, hb⟩
theorem four_of {α : Type} {P : α → Prop} {a b c d : α} (h0 : P a) (h1 : P b) (h2 : P c) (h3 : P d) : ∀ q ∈ [a, b, c, d], P q := by
  intro q hq
  simp only [List.mem_cons, List.not_mem_nil, or_false] at hq
  rcases hq with rfl | rfl | rfl | rfl
  · exact h0
  · exact h1
  · exact h2
  · exact h3
theorem two_of {α : Type} {P : α → Prop} {a b : α} (h0 : P a) (h1 : P b) : ∀ q ∈ [a, b], P q := by
  intro q hq
  simp only [List.mem_cons, List.not_mem_nil, or_false] at hq
  rcases hq with rfl | rfl
  · exact h0
  · exact h1
theorem txb (z : Int) (h0 : 0 ≤ z) (h1 : z < 256) : Byt [z] := by
  first
    | exact fun x hx => by rw [List.mem_singleton.1 hx]; exact ⟨h0, h1⟩
    | (intro i; match i with
        | 0 => simp [Nb.lb]; omega
        | i + 1 => simp [Nb.lb])
theorem vp_tx (es : List Int) : vpts (txV es) = 1 := by rw [vpts_eq]; simp [txV, Va.mag, Va.kids, kpts]
theorem vp_wh (n : Int) : vpts (whV n) ≤ 2 := by rw [vpts_eq]; unfold whV; simp only [Va.mag, Va.kids, kpts]; split <;> simp
def txC (s : ByteArray) : Cl := ⟨5, 0, false, none, 0, 0, 0, 0, s, none, 0, 0⟩
def zeC : Cl := ⟨0, 0, false, none, 0, 0, 0, 0, ⟨#[]⟩, none, 0, 0⟩
theorem VaOw.cl {B : Nat} {W : World} {u : Value} {x : Va} (h : VaOw B W u x) : ∃ c : Cl, u = c.V := by
  obtain ⟨⟨vm, vk, rfl, h1, h2⟩, h3⟩ := h
  obtain ⟨p, q, rfl, -⟩ := own_shp h1
  obtain ⟨r, s, rfl⟩ := h2.shp
  exact ⟨⟨x.kind, x.n, x.neg, p, x.mag.length, q, x.bits, x.ext, strOfNums x.text, r, x.kids.length, s⟩, rfl⟩
theorem lvm_of {B : Nat} {W : World} {u : Value} (h : VaOw B W u m14) : ∃ (cm : Cl) (gk kc : Nat), u = cm.V ∧ cm.ko = some ⟨gk, 0, none⟩ ∧ cm.kl = 4 ∧ cm.kc = kc ∧ VaRd W cm.V m14 ∧ W.cell? ⟨gk, 6, none⟩ = some (.string ⟨#[97]⟩) := by
  have hrd := h.reads
  obtain ⟨⟨vm, vk, rfl, h1, h2⟩, h3⟩ := h
  obtain ⟨p, q, rfl, -⟩ := own_shp h1
  have hz : ∃ zs : List (Va × Value × Value), zs.map Prod.fst = m14.kids ∧ W.ownsRow B 31 8 vk zs.length (flatV zs) := by
    generalize m14.kids = ks at h2
    cases h2 with
    | mk _ zs hl ho hm hk => exact ⟨zs, rfl, ho⟩
  obtain ⟨zs, hz, ho⟩ := hz
  obtain ⟨q0, q1, q2, q3, rfl, e0, e1, e2, e3⟩ := lv_four (a := txV [97]) (b := whV 2) (c := txV [98]) (d := whV 1) hz
  obtain ⟨r, s, rfl, hg⟩ := own_shp ho
  obtain ⟨gk, rfl⟩ := hg (by simp)
  have hc := own_range ho 6 (.string (strOfNums q0.1.text)) rfl
  rw [e0] at hc
  exact ⟨⟨m14.kind, m14.n, m14.neg, p, m14.mag.length, q, m14.bits, m14.ext, strOfNums m14.text, some ⟨gk, 0, none⟩, 4, s⟩, gk, s, rfl, rfl, rfl, rfl, hrd, hc⟩
structure BxR (W : World) (b : Nat) (c : Cl) (x : Va) : Prop where
  row : W.rangeAt b 0 c.L
  lt : b < W.heap.size
  rd : VaRd W c.V x
theorem BxR.below {W W' : World} {b : Nat} {c : Cl} {x : Va} (h : BxR W b c x) (hb : Below W.heap.size W W') : BxR W' b c x :=
  ⟨Below.range h.row hb h.lt, Nat.lt_of_lt_of_le h.lt hb.size, h.rd.far hb⟩
structure LvM (W : World) (b gk kc : Nat) (cm : Cl) : Prop where
  bx : BxR W b cm m14
  ko : cm.ko = some ⟨gk, 0, none⟩
  kl : cm.kl = 4
  kc : cm.kc = kc
  kid : W.cell? ⟨gk, 6, none⟩ = some (.string ⟨#[97]⟩)
theorem LvM.below {W W' : World} {b gk kc : Nat} {cm : Cl} (h : LvM W b gk kc cm) (hb : Below W.heap.size W W') : LvM W' b gk kc cm :=
  ⟨h.bx.below hb, h.ko, h.kl, h.kc, (hb.cell (p := ⟨gk, 6, none⟩) (cell_in h.kid)).trans h.kid⟩
theorem LvM.kids {W : World} {b gk kc : Nat} {cm : Cl} (h : LvM W b gk kc cm) : W.cell? ⟨b, 7, none⟩ = some (.slice (some ⟨gk, 0, none⟩) 4 kc) := by
  have := h.bx.row 7 (.slice cm.ko cm.kl cm.kc) rfl
  rw [h.ko, h.kl, h.kc] at this
  simpa using this
theorem lv_sz (b : Nat) : ∀ (vs : List Value) (o : Nat) (w : World), (w.setCells b o vs).heap.size = w.heap.size
  | [], _, _ => rfl
  | v :: r, o, w => by rw [World.setCells, lv_sz b r]; simp
theorem lv_oth (b : Nat) : ∀ (vs : List Value) (o : Nat) (w : World) (j : Nat), j ≠ b → (w.setCells b o vs).heap[j]? = w.heap[j]?
  | [], _, _, _, _ => rfl
  | v :: r, o, w, j, h => by rw [World.setCells, lv_oth b r _ _ j h]; exact Below.heap_setCell w ⟨b, o, none⟩ v j h
theorem box_new {W W8 : World} {c : Cl} {x : Va} (hW : (W.alloc (.cells #[.int .i8 0, .int .u64 0, .bool false, .slice none 0 0, .int .u64 0, .int .i8 0, .string ⟨#[]⟩, .slice none 0 0] 31)).setCells W.heap.size 0 c.L = W8) (h : VaRd W c.V x) : BxR W8 W.heap.size c x ∧ Below W.heap.size W W8 := by
  have hb : Below W.heap.size W W8 := by rw [← hW]; exact below_cells ((Below.refl _ _).alloc (Nat.le_refl _) _) (Nat.le_refl _) _ _
  have hs : W.heap.size < W8.heap.size := by
    rw [← hW, lv_sz]
    simp
  refine ⟨⟨?_, hs, h.far hb⟩, hb⟩
  rw [← hW]
  exact World.rangeAt_setCells_same _ _ _ _ (there_new W 31 #[.int .i8 0, .int .u64 0, .bool false, .slice none 0 0, .int .u64 0, .int .i8 0, .string ⟨#[]⟩, .slice none 0 0] (n := 8) (by decide))
theorem run_ldV {o : Oper} {a : Act} {u : World} {y : Operand} {b f : Nat} {c : Cl} (ho : o.op = .load 31 y) (hy : a.eval y = .pointer (some ⟨b, f, none⟩)) (hx : u.rangeAt b f c.L) : (execOp a.eval o).run Tryz.prog u = .ok (.value c.V) u := by
  obtain ⟨d, h1, h2⟩ := vaDesc
  unfold execOp
  simp only [ho, hy, Instr.loadAt, Instr.sureAddr, Sem.run_bind, Sem.run_pure, Result.andThen_ok, run_loadVar_mid u b f _ c.L d hx h1 h2 va8Info]
  rfl
theorem wp_stV {o : Oper} {a : Act} {w : World} {K : Act → World → Prop} {Q : Exit → Act → World → Prop} (y z : Operand) (ho : o.op = .store 31 y z) (b f : Nat) (hy : a.eval y = .pointer (some ⟨b, f, none⟩)) (x : Cl) (hz : a.eval z = x.V) (hx : w.there b f 8) (h : K (a.put o.dst undef) (w.setCells b f x.L)) : o.wp Tryz.prog a w K Q :=
  wp_store_mid _ y z ho b f x.L.toArray hy hz hx (by rw [va8Info]; rfl) (all_oneCell_toArray (fun u hu => by
    simp only [Cl.L, List.mem_cons, List.not_mem_nil, or_false] at hu
    rcases hu with rfl | rfl | rfl | rfl | rfl | rfl | rfl | rfl <;> rfl)) h
theorem lv_map2z {B : Nat} {w' : World} {ev : Nat → Value} {zs : List (Va × Value × Value)} {u : Value} (h : MapR B w' ev zs u) (hz : zs.map Prod.fst = [whV 0, whV 1, whV 0, whV 2]) : ∃ g, B ≤ g ∧ u = .tuple #[zeC.V, .iface 62 (.pointer (some ⟨g, 0, none⟩))] ∧ FlA w' g (ev 2) 1 := by
  have h' := h
  obtain ⟨g, v0, hg, hu, hv0, hf⟩ := lv_map2 h hz
  unfold MapR at h'
  rcases h' with ⟨_, g', _, hu', hf'⟩ | ⟨_, _, hu'⟩ | ⟨_, _, u', hu', _⟩
  · have e := hu.symm.trans hu'
    simp only [Value.tuple.injEq, Array.mk.injEq, List.cons.injEq] at e
    rw [e.1] at hu
    exact ⟨g, hg, hu, hf⟩
  · have e := hu.symm.trans hu'
    simp only [Value.tuple.injEq, Array.mk.injEq, List.cons.injEq] at e
    rw [e.1] at hu
    exact ⟨g, hg, hu, hf⟩
  · have e := hu.symm.trans hu'
    simp only [Value.tuple.injEq, Array.mk.injEq, List.cons.injEq] at e
    cases e.2.1
theorem lv_pts_m14 : vpts m14 ≤ 1048576 := by
  have h1 := vp_tx [97]
  have h2 := vp_wh 2
  have h3 := vp_tx [98]
  have h4 := vp_wh 1
  rw [vpts_eq, show m14.kids = [txV [97], whV 2, txV [98], whV 1] from rfl, show m14.mag = [] from rfl]
  simp only [kpts, List.length_nil]
  omega
theorem wf_ze : VaW zeV := by
  unfold zeV
  constructor <;> simp only [Va.kind, Va.n, Va.bits, Va.ext, Va.text, Va.mag, List.length_nil] <;> first | decide | omega | (exact fun i => by simp [Nt.lb]) | (intro z hz; cases hz)
theorem good_ze (w : World) : GoodV w (zeV, .slice none 0 0, .slice none 0 0) := ⟨rd_nil w, wf_ze, sl_nil w⟩
theorem wf_li : VaW liV := by
  unfold liV
  constructor <;> simp only [Va.kind, Va.n, Va.bits, Va.ext, Va.text, Va.mag, List.length_nil] <;> first | decide | omega | (exact fun i => by simp [Nt.lb]) | (intro z hz; cases hz)
theorem li_rd {W : World} {g : Nat} {vm : Value} (h : W.heap[g]? = some (.cells (flatV [(whV 1, vm, .slice none 0 0), (zeV, .slice none 0 0, .slice none 0 0)]).toArray 31 (0, 0))) (hg : ∀ q ∈ [(whV 1, vm, (.slice none 0 0 : Value)), (zeV, .slice none 0 0, .slice none 0 0)], GoodV W q) :
    VaRd W (.agg #[.int .i8 7, .int .u64 0, .bool false, .slice none 0 0, .int .u64 0, .int .i8 0, .string ⟨#[]⟩, .slice (some ⟨g, 0, none⟩) 2 2]) liV :=
  ⟨⟨.slice none 0 0, .slice (some ⟨g, 0, none⟩) 2 2, rfl, rd_nil W, (clgd_made h hg rfl (by simp)).2⟩, wf_li⟩
theorem li_pts : vpts liV ≤ 1048576 := by
  have h4 := vp_wh 1
  have h5 : vpts zeV = 1 := by rw [vpts_eq]; simp [zeV, Va.mag, Va.kids, kpts]
  rw [vpts_eq, show liV.kids = [whV 1, zeV] from rfl, show liV.mag = [] from rfl]
  simp only [kpts, List.length_nil]
  omega
theorem box_newb {W W8 : World} {c : Cl} (hW : (W.alloc (.cells #[.int .i8 0, .int .u64 0, .bool false, .slice none 0 0, .int .u64 0, .int .i8 0, .string ⟨#[]⟩, .slice none 0 0] 31)).setCells W.heap.size 0 c.L = W8) : Below W.heap.size W W8 := by
  rw [← hW]; exact below_cells ((Below.refl _ _).alloc (Nat.le_refl _) _) (Nat.le_refl _) _ _
theorem fla_below {W W' : World} {g : Nat} {e : Value} {k : Int} (h : FlA W g e k) (hb : Below W.heap.size W W') : FlA W' g e k := by
  unfold FlA
  rw [hb.block _ (Array.getElem?_eq_some_iff.1 h).1]
  exact h
theorem lv_cmpw {W : World} (L : Lays W) : Calls Tryz.prog 19 #[(txC ⟨#[97]⟩).V, (txC ⟨#[97, 98]⟩).V] W fun e w' => e = .returned (.int .i64 (-1)) ∧ Below W.heap.size W w' := by
  have hb : Byt [97, 98] := by
    first
      | exact fun x hx => by
          simp only [List.mem_cons, List.not_mem_nil, or_false] at hx
          rcases hx with rfl | rfl <;> decide
      | (intro i; match i with
          | 0 => simp [Nb.lb]
          | 1 => simp [Nb.lb]
          | i + 2 => simp [Nb.lb])
  have h := (vcompare_any (x := txV [97]) (by rw [vp_tx]; omega)) W (txC ⟨#[97]⟩).V (txC ⟨#[97, 98]⟩).V (txV [97, 98]) L (good_tx (txb 97 (by omega) (by omega)) (by simp) W).rd (good_tx hb (by simp) W).rd (by rw [vp_tx]; omega)
  rw [lv_cmp_ab] at h
  exact h
theorem VaRd.cl {w : World} {v : Value} {x : Va} (h : VaRd w v x) : ∃ q : Va × Value × Value, v = (clQ q).V ∧ q.1 = x ∧ GoodV w q := by
  obtain ⟨⟨vm, vk, rfl, h1, h2⟩, h3⟩ := h
  exact ⟨(x, vm, vk), (clQ_V (q := (x, vm, vk)) ⟨h1, h3, h2⟩).symm, rfl, h1, h3, h2⟩
theorem clF_flat {w : World} {zs : List (Va × Value × Value)} (hg : ∀ q ∈ zs, GoodV w q) : clF (zs.map clQ) = flatV zs := by
  induction zs with
  | nil => rfl
  | cons q zs ih => rw [List.map_cons, clF_cons, flatV_cons, clQ_L (hg q List.mem_cons_self), ih (fun q' hq' => hg q' (List.mem_cons_of_mem _ hq'))]
theorem wpList_bsC2 {ops : Array Oper} {rest : List Oper} {o : Oper} {a : Act} {w : World} {Q : Exit → Act → World → Prop} (hgd : o.guard = none) (y0 y1 : Operand) (ho : o.op = .buildSlice 29 2 #[(0, y0), (1, y1)]) (c0 c1 : Cl)
    (h0 : a.eval y0 = c0.V) (h1 : a.eval y1 = c1.V)
    (h : wpList Tryz.prog ops Q rest (a.put o.dst (.slice (some ⟨w.heap.size, 0, none⟩) 2 2)) (w.alloc (.cells (clF [c0, c1]).toArray 31))) : wpList Tryz.prog ops Q (o :: rest) a w := by
  obtain ⟨i0, hi, hz0, hz1, hz2⟩ := info_va
  refine wpList_buildSlice hgd 29 31 2 _ ho _ i0 _ Tryz.underlying29 hi hz0 (by rw [hz1]; decide) (by rw [hz1]; decide) ?_ h
  rw [hz1]
  simp only [List.map_toArray, List.map_cons, List.map_nil, h0, h1]
  exact (Go.Great.fill_whole (s := 8) (by decide) [c0.V, c1.V] _ (fun v hv => by
    simp only [List.mem_cons, List.not_mem_nil, or_false] at hv
    rcases hv with rfl | rfl <;> rfl) (by simp)).trans (by simp [Cl.V, Cl.L, clF, Value.cells])
theorem wpList_bsC1 {ops : Array Oper} {rest : List Oper} {o : Oper} {a : Act} {w : World} {Q : Exit → Act → World → Prop} (hgd : o.guard = none) (y0 : Operand) (ho : o.op = .buildSlice 29 1 #[(0, y0)]) (c0 : Cl)
    (h0 : a.eval y0 = c0.V)
    (h : wpList Tryz.prog ops Q rest (a.put o.dst (.slice (some ⟨w.heap.size, 0, none⟩) 1 1)) (w.alloc (.cells (clF [c0]).toArray 31))) : wpList Tryz.prog ops Q (o :: rest) a w := by
  obtain ⟨i0, hi, hz0, hz1, hz2⟩ := info_va
  refine wpList_buildSlice hgd 29 31 1 _ ho _ i0 _ Tryz.underlying29 hi hz0 (by rw [hz1]; decide) (by rw [hz1]; decide) ?_ h
  rw [hz1]
  simp only [List.map_toArray, List.map_cons, List.map_nil, h0]
  exact (Go.Great.fill_whole (s := 8) (by decide) [c0.V] _ (fun v hv => by
    simp only [List.mem_cons, List.not_mem_nil, or_false] at hv
    rcases hv with rfl <;> rfl) (by simp)).trans (by simp [Cl.V, Cl.L, clF, Value.cells])
theorem bey_row {W : World} {zs : List (Va × Value × Value)} {n : Nat} (hg : ∀ q ∈ zs, GoodV W q) (hn : zs.length = n) (hm : n ≤ 1048577) {W' : World} (hW : W.alloc (.cells (clF (zs.map clQ)).toArray 31) = W') :
    Calls Tryz.prog 9 #[.slice (some ⟨W.heap.size, 0, none⟩) n n] W' fun e w' => (∃ q : Bool, e = .returned (.bool q) ∧ (q = false → kpts (zs.map Prod.fst) ≤ 1048576)) ∧ Below W'.heap.size W' w' := by
  have hb : Below W.heap.size W W' := by rw [← hW]; exact (Below.refl _ _).alloc (Nat.le_refl _) _
  have hr : W'.heap[W.heap.size]? = some (.cells (flatV zs).toArray 31 (0, 0)) := by
    rw [← hW, clF_flat hg]
    exact heap_alloc_new _ _
  refine (beyondval_any (clgd_made hr (fun q hq => (hg q hq).far hb) hn hm).2).mono fun e w' h => ⟨?_, h.2⟩
  obtain ⟨⟨b, rfl, hq⟩, -⟩ := h
  refine ⟨b, rfl, fun e => ?_⟩
  rcases hq with h | h
  · rw [e] at h; cases h
  · exact h
theorem bx_box {W W' : World} {c : Cl} {x : Va} (hW : W.alloc (.cells c.L.toArray 31) = W') (h : VaRd W c.V x) : BxR W' W.heap.size c x ∧ Below W.heap.size W W' ∧ W'.heap.size = W.heap.size + 1 := by
  have hb : Below W.heap.size W W' := by rw [← hW]; exact (Below.refl _ _).alloc (Nat.le_refl _) _
  have hs : W'.heap.size = W.heap.size + 1 := by rw [← hW]; simp
  have hr : W'.heap[W.heap.size]? = some (.cells c.L.toArray 31 (0, 0)) := by rw [← hW]; exact heap_alloc_new _ _
  refine ⟨⟨fun j v hv => ?_, by omega, h.far hb⟩, hb, hs⟩
  rw [Nat.zero_add, cell_of_row W' W.heap.size j _ _ _ hr]
  simpa using hv
theorem one_of {α : Type} {P : α → Prop} {a : α} (h0 : P a) : ∀ q ∈ [a], P q := by
  intro q hq
  simp only [List.mem_cons, List.not_mem_nil, or_false] at hq
  rcases hq with rfl
  exact h0
set_option maxHeartbeats 16000000 in
set_option maxRecDepth 100000 in
theorem lives14_any {w : World} {a : Nat → Addr} (LL : Lays w) (TT : Brn w) (UU : Uss w) (PP : PtW w) (hS : Snt w a) (hH : Hnd w) : Calls Tryz.prog 14 #[] w fun e w' => e = .returned (.bool true) ∧ Below w.heap.size w w' := by
  have HE := hide (che LL TT UU PP hS)
  have HLY := hide LL
  have HS := hide hS
  have HH := hide hH
  clear LL TT UU PP hS hH
  have HMP := hide (fun (W : World) (hb : Below w.heap.size w W) (g : Nat) (zs : List (Va × Value × Value)) (h : W.heap[g]? = some (.cells (flatV zs).toArray 31 (0, 0))) (hg : ∀ q ∈ zs, GoodV W q) (hn : zs.length = 4) (hp : ∀ q ∈ zs, vpts q.1 ≤ 1048576) (hc : ∀ q ∈ zs, chkV q.1 = none) =>
    map_good (HE.out.below hb) (clgd_made h hg hn (by omega)).1 (by omega) (by omega) hp hc)
  have HT := hide (fun (W : World) (z : Int) (s : ByteArray) (hs : strOfNums [z] = s) => (show Calls Tryz.prog 37 #[.string s] W fun e w' => e = .returned (txC s).V ∧ Below W.heap.size W w' from by subst hs; exact txt14 [z] rfl))
  go_enter Tryz.func14, Tryz.ntmps14
  go_upto_region 1 with fail
  go_cut [1, 2] from 10 (fun s1 s2 w' => ∃ b1 gk kc cm, s1 = .pointer (some ⟨b1, 0, none⟩) ∧ s2 = .nilIface ∧ LvM w' b1 gk kc cm ∧ Below w.heap.size w w')
  case first =>
    go_wp2_with (first | (go_at_call 37; (with_reducible refine (txt14 [98] (s := ⟨#[98]⟩) rfl).mono ?_); rintro e w1 ⟨rfl, hb1⟩) | (go_at_call 38; (with_reducible refine (whole_is 1 (by decide) (by decide)).mono ?_); rintro e w2 ⟨⟨a2, c2, rfl, g2⟩, hb2⟩; replace hb2 := hb1.trans (hb2.mono hb1.size)) | (go_at_call 37; (with_reducible refine (txt14 [97] (s := ⟨#[97]⟩) rfl).mono ?_); rintro e w3 ⟨rfl, hb3⟩; have g3 := g2.far hb3; replace hb3 := hb2.trans (hb3.mono hb2.size)) | (go_at_call 38; (with_reducible refine (whole_is 2 (by decide) (by decide)).mono ?_); rintro e w4 ⟨⟨a4, c4, rfl, g4⟩, hb4⟩; have g5 := g3.far hb4; replace hb4 := hb3.trans (hb4.mono hb3.size)) | (refine wpList_bs4 rfl _ _ _ _ rfl (txV [98]) (whV 1) (txV [97]) (whV 2) rfl rfl rfl rfl ?_; (obtain ⟨W5, hW5⟩ : ∃ W5, w4.alloc (.cells (flatV [(txV [98], .slice none 0 0, .slice none 0 0), (whV 1, .slice a2 (whV 1).mag.length c2, .slice none 0 0), (txV [97], .slice none 0 0, .slice none 0 0), (whV 2, .slice a4 (whV 2).mag.length c4, .slice none 0 0)]).toArray 31) = W5 := ⟨_, rfl⟩); have k5 : Below w4.heap.size w4 W5 := (by rw [← hW5]; exact (Below.refl _ _).alloc (Nat.le_refl _) _); have n5 : W5.heap[w4.heap.size]? = some (.cells (flatV [(txV [98], .slice none 0 0, .slice none 0 0), (whV 1, .slice a2 (whV 1).mag.length c2, .slice none 0 0), (txV [97], .slice none 0 0, .slice none 0 0), (whV 2, .slice a4 (whV 2).mag.length c4, .slice none 0 0)]).toArray 31 (0, 0)) := (by rw [← hW5]; exact heap_alloc_new _ _); have gm : ∀ q ∈ [(txV [98], .slice none 0 0, .slice none 0 0), (whV 1, .slice a2 (whV 1).mag.length c2, .slice none 0 0), (txV [97], .slice none 0 0, .slice none 0 0), (whV 2, .slice a4 (whV 2).mag.length c4, .slice none 0 0)], GoodV W5 q := (four_of (good_tx (txb 98 (by omega) (by omega)) (by simp) _) (g5.far k5) (good_tx (txb 97 (by omega) (by omega)) (by simp) _) (g4.far k5)); rw [hW5]; clear hW5; try simp only [Act.put, setIfInBounds_toArray, set_cons_zero, set_cons_succ]) | (go_at_call 36; (with_reducible refine (HMP.out _ (hb4.trans (k5.mono hb4.size)) _ [(txV [98], .slice none 0 0, .slice none 0 0), (whV 1, .slice a2 (whV 1).mag.length c2, .slice none 0 0), (txV [97], .slice none 0 0, .slice none 0 0), (whV 2, .slice a4 (whV 2).mag.length c4, .slice none 0 0)] n5 gm rfl (four_of (Nat.le_trans (Nat.le_of_eq (vp_tx _)) (by omega)) (Nat.le_trans (vp_wh _) (by omega)) (Nat.le_trans (Nat.le_of_eq (vp_tx _)) (by omega)) (Nat.le_trans (vp_wh _) (by omega))) (four_of (lv_chk_leaf lv_a98 rfl) (lv_chk_leaf (lv_alo_wh (by omega) (by omega)) rfl) (lv_chk_leaf lv_a97 rfl) (lv_chk_leaf (lv_alo_wh (by omega) (by omega)) rfl))).mono ?_); rintro e w6 ⟨⟨u, rfl, hu⟩, hb6⟩; obtain ⟨u', rfl, hv⟩ := lv_map1 hu rfl; obtain ⟨cm, gk, kc, rfl, hko, hkl, hkc, hrd, hkid⟩ := lvm_of hv; have HB6 := hide ((hb4.trans (k5.mono hb4.size)).trans (hb6.mono (Nat.le_trans hb4.size k5.size))); have HKO := hide (And.intro hko (And.intro hkl hkc)); have HKI := hide hkid; have HTH := hide (there_new w6 31 #[.int .i8 0, .int .u64 0, .bool false, .slice none 0 0, .int .u64 0, .int .i8 0, .string ⟨#[]⟩, .slice none 0 0] (n := 8) (by decide)); obtain ⟨W8, hW8⟩ : ∃ W8, (w6.alloc (.cells #[.int .i8 0, .int .u64 0, .bool false, .slice none 0 0, .int .u64 0, .int .i8 0, .string ⟨#[]⟩, .slice none 0 0] 31)).setCells w6.heap.size 0 cm.L = W8 := ⟨_, rfl⟩; have HBX := hide (box_new hW8 hrd); have HW8 := hide hW8; clear hu hv hko hkl hkc hrd hkid hb6 hW8 gm n5 k5) | (refine wpList_stV rfl _ _ rfl w6.heap.size 0 rfl cm rfl HTH.out ?_; rw [HW8.out]; try simp only [Act.put, setIfInBounds_toArray, set_cons_zero, set_cons_succ]))
    go_meet
    case rel => exact ⟨_, gk, kc, cm, rfl, rfl, ⟨HBX.out.1, HKO.out.1, HKO.out.2.1, HKO.out.2.2, (HBX.out.2.cell (p := ⟨gk, 6, none⟩) (cell_in HKI.out)).trans HKI.out⟩, HB6.out.trans (HBX.out.2.mono HB6.out.size)⟩
  case rest =>
    obtain ⟨b1, gk, kc, cm, rfl, rfl, hM, hb⟩ := hcut
    rename World => w1
    have HM1 := hide hM
    have HB1 := hide hb
    clear hM hb
    go_upto_region 2 with fail
    have HF2 := hide (fun (W : World) (hW : Below w1.heap.size w1 W) => show Calls Tryz.prog 39 #[cm.V, (txC ⟨#[98]⟩).V] W fun e w' => (∃ cv : Cl, e = .returned (.tuple #[cv.V, .bool true]) ∧ VaOw W.heap.size w' cv.V (whV 1)) ∧ Below W.heap.size W w' from by
      have h := find_any (HE.out.below (HB1.out.trans (hW.mono HB1.out.size))) (HM1.out.bx.rd.far hW) (ck := txC ⟨#[98]⟩) (key := txV [98]) (good_tx (txb 98 (by omega) (by omega)) (by simp) W).rd (by first | decide | exact lv_pts_m14) (Nat.le_trans (Nat.le_of_eq (vp_tx _)) (by omega))
      refine h.mono fun e w' h => ⟨?_, h.2⟩
      obtain ⟨⟨u, rfl, hu⟩, -⟩ := h
      rw [lv_find_b] at hu
      obtain ⟨u', rfl, hv⟩ := hu
      obtain ⟨cv, rfl⟩ := hv.cl
      exact ⟨cv, rfl, hv⟩)
    go_cut [3, 4] from 10 (fun s3 s4 w' => ∃ b3 cv, s3 = .pointer (some ⟨b3, 0, none⟩) ∧ s4 = .bool true ∧ BxR w' b3 cv (whV 1) ∧ Below w1.heap.size w1 w')
    case first =>
      have CC : ∀ u : World, Below w1.heap.size w1 u → u.rangeAt b1 0 cm.L := fun u hu => Below.range HM1.out.bx.row hu HM1.out.bx.lt
      have K : Below w1.heap.size w1 w1.drew := (Below.refl _ _).drew
      have HC0 := CC _ K
      refine wpHl.region0 (C := fun u => u.rangeAt b1 0 cm.L) (by kernel_rfl) (by kernel_rfl) (fun HS => ?_)
      generalize w1.drew = ua at *
      refine wpHl.tk0 (i := 0) (d := some 20) (v := cm.V) rfl HS (by as_aux_lemma => kernel_rfl) rfl (fun _ _ _ h => h) (Or.inl ⟨by rfl, ?_⟩) HC0 ?_
      · intro u hC
        exact run_ldV rfl rfl hC
      try simp only [Act.put, setIfInBounds_toArray, set_cons_zero, set_cons_succ]
      refine wpHl.two (i := 1) (j := 6) (by as_aux_lemma => kernel_rfl) rfl rfl (fun K1 hK1 => ?_) (fun K1 hK1 => ?_)
      · skip
        rw [if_pos (by rfl)]
        refine wp_call_of (f := 37) (args := #[.string ⟨#[98]⟩]) (by kernel_rfl) ?_
        with_reducible refine (HT.out _ 98 ⟨#[98]⟩ rfl).mono ?_
        rintro e ub ⟨rfl, hb⟩
        replace K := below_trans K hb
        clear HC0
        have HC0 := CC _ K
        refine hK1 (Act.put _ (some 21) _) _ ⟨fun _ => HC0, ?_⟩
        clear hK1 K1
        try simp only [Act.put, setIfInBounds_toArray, set_cons_zero, set_cons_succ]
        clear hb
        refine wpHl.two (i := 2) (j := 6) (by as_aux_lemma => kernel_rfl) rfl rfl (fun K1 hK1 => ?_) (fun K1 hK1 => ?_)
        · skip
          rw [if_pos (by rfl)]
          refine wp_call_of (f := 39) (args := #[cm.V, (txC ⟨#[98]⟩).V]) (by kernel_rfl) ?_
          with_reducible refine (HF2.out _ K).mono ?_
          rintro e uc ⟨⟨cv, rfl, hO⟩, hb⟩
          replace K := below_trans K hb
          clear HC0
          have HC0 := CC _ K
          refine hK1 (Act.put _ (some 22) _) _ ⟨fun _ => HC0, ?_⟩
          clear hK1 K1
          try simp only [Act.put, setIfInBounds_toArray, set_cons_zero, set_cons_succ]
          have HO := hide hO
          clear hb
          refine wpHl.tk0 (i := 3) (d := some 19) (v := .tuple #[cv.V, .bool true]) rfl HS (by as_aux_lemma => kernel_rfl) rfl (fun _ _ _ h => h) (Or.inl ⟨by rfl, ?_⟩) HC0 ?_
          · intro u hC
            go_simp
          try simp only [Act.put, setIfInBounds_toArray, set_cons_zero, set_cons_succ]
          refine wpHl.tk0 (i := 4) (d := some 23) (v := cv.V) rfl HS (by as_aux_lemma => kernel_rfl) rfl (fun _ _ _ h => h) (Or.inl ⟨by rfl, ?_⟩) HC0 ?_
          · intro u hC
            go_simp
          try simp only [Act.put, setIfInBounds_toArray, set_cons_zero, set_cons_succ]
          refine wpHl.tk0 (i := 5) (d := some 24) (v := .bool true) rfl HS (by as_aux_lemma => kernel_rfl) rfl (fun _ _ _ h => h) (Or.inl ⟨by rfl, ?_⟩) HC0 ?_
          · intro u hC
            go_simp
          try simp only [Act.put, setIfInBounds_toArray, set_cons_zero, set_cons_succ]
          refine wpHl.one (i := 6) (by as_aux_lemma => kernel_rfl) rfl (fun K2 hK2 => ?_)
          obtain ⟨ud, hW6⟩ : ∃ W6, uc.alloc (.cells #[.int .i8 0, .int .u64 0, .bool false, .slice none 0 0, .int .u64 0, .int .i8 0, .string ⟨#[]⟩, .slice none 0 0] 31) = W6 := ⟨_, rfl⟩
          have hb : Below uc.heap.size uc ud := by rw [← hW6]; exact bel_new _ _
          have HZ := hide (show ud.heap[uc.heap.size]? = some (.cells #[.int .i8 0, .int .u64 0, .bool false, .slice none 0 0, .int .u64 0, .int .i8 0, .string ⟨#[]⟩, .slice none 0 0] 31 (0, 0)) by rw [← hW6]; exact heap_alloc_new _ _)
          have hge := K.size
          rw [if_pos (by rfl)]
          go_simp
          try rw [hW6]
          clear hW6
          replace K := below_trans K hb
          clear HC0
          have HC0 := CC _ K
          refine hK2 _ _ ⟨fun _ => HC0, ?_⟩
          clear hK2 K2
          try simp only [Act.put, setIfInBounds_toArray, set_cons_zero, set_cons_succ]
          refine wpHl.one (i := 7) (by as_aux_lemma => kernel_rfl) rfl (fun KS hKS => ?_)
          rw [if_pos (by rfl)]
          obtain ⟨W9, hW9⟩ : ∃ W9, ud.setCells uc.heap.size 0 cv.L = W9 := ⟨_, rfl⟩
          refine wp_stV _ _ rfl uc.heap.size 0 rfl cv rfl (there_blk HZ.out (by decide)) ?_
          rw [hW9]
          replace K : Below w1.heap.size w1 W9 := by rw [← hW9]; exact below_cells K hge _ _
          clear HC0
          have HC0 := CC _ K
          refine hKS _ _ ⟨fun _ => HC0, ?_⟩
          clear hKS KS
          try simp only [Act.put, setIfInBounds_toArray, set_cons_zero, set_cons_succ]
          refine wpHl.tk0 (i := 8) (d := some 4) (v := .bool true) rfl HS (by as_aux_lemma => kernel_rfl) rfl (fun _ _ _ h => h) (Or.inl ⟨by rfl, ?_⟩) HC0 ?_
          · intro u hC
            go_simp
          try simp only [Act.put, setIfInBounds_toArray, set_cons_zero, set_cons_succ]
          refine wpHl.done (by as_aux_lemma => kernel_rfl) ?_ _
          clear CC HC0 HS
          have HX := hide (show BxR W9 uc.heap.size cv (whV 1) from ⟨by rw [← hW9]; exact World.rangeAt_setCells_same _ _ _ _ (there_blk HZ.out (show 0 + 8 ≤ 8 by decide)), by rw [← hW9, lv_sz]; exact (Array.getElem?_eq_some_iff.1 HZ.out).1, (HO.out.reads).far (by rw [← hW9]; exact below_cells hb (Nat.le_refl _) _ _)⟩)
          clear hW9
          have HK := hide K
          clear K
          go_wp2_with fail
          go_meet
          case rel => exact ⟨_, cv, rfl, rfl, HX.out, HK.out⟩
        · skip
          obtain ⟨uc, hW6⟩ : ∃ W6, ub.alloc (.cells #[.int .i8 0, .int .u64 0, .bool false, .slice none 0 0, .int .u64 0, .int .i8 0, .string ⟨#[]⟩, .slice none 0 0] 31) = W6 := ⟨_, rfl⟩
          have hb : Below ub.heap.size ub uc := by rw [← hW6]; exact bel_new _ _
          have HZ := hide (show uc.heap[ub.heap.size]? = some (.cells #[.int .i8 0, .int .u64 0, .bool false, .slice none 0 0, .int .u64 0, .int .i8 0, .string ⟨#[]⟩, .slice none 0 0] 31 (0, 0)) by rw [← hW6]; exact heap_alloc_new _ _)
          have hge := K.size
          rw [if_pos (by rfl)]
          go_simp
          try rw [hW6]
          clear hW6
          replace K := below_trans K hb
          clear HC0
          have HC0 := CC _ K
          refine hK1 _ _ ⟨fun _ => HC0, ?_⟩
          clear hK1 K1
          try simp only [Act.put, setIfInBounds_toArray, set_cons_zero, set_cons_succ]
          have ltz : ub.heap.size < uc.heap.size := (Array.getElem?_eq_some_iff.1 HZ.out).1
          clear hb
          refine wpHl.one (i := 2) (by as_aux_lemma => kernel_rfl) rfl (fun K2 hK2 => ?_)
          rw [if_pos (by rfl)]
          refine wp_call_of (f := 39) (args := #[cm.V, (txC ⟨#[98]⟩).V]) (by kernel_rfl) ?_
          with_reducible refine (HF2.out _ K).mono ?_
          rintro e ud ⟨⟨cv, rfl, hO⟩, hb⟩
          replace HZ := hide ((hb.block _ ltz).trans HZ.out)
          replace K := below_trans K hb
          clear HC0
          have HC0 := CC _ K
          refine hK2 (Act.put _ (some 22) _) _ ⟨fun _ => HC0, ?_⟩
          clear hK2 K2
          try simp only [Act.put, setIfInBounds_toArray, set_cons_zero, set_cons_succ]
          have HO := hide hO
          clear hb
          refine wpHl.tk0 (i := 3) (d := some 19) (v := .tuple #[cv.V, .bool true]) rfl HS (by as_aux_lemma => kernel_rfl) rfl (fun _ _ _ h => h) (Or.inl ⟨by rfl, ?_⟩) HC0 ?_
          · intro u hC
            go_simp
          try simp only [Act.put, setIfInBounds_toArray, set_cons_zero, set_cons_succ]
          refine wpHl.tk0 (i := 4) (d := some 23) (v := cv.V) rfl HS (by as_aux_lemma => kernel_rfl) rfl (fun _ _ _ h => h) (Or.inl ⟨by rfl, ?_⟩) HC0 ?_
          · intro u hC
            go_simp
          try simp only [Act.put, setIfInBounds_toArray, set_cons_zero, set_cons_succ]
          refine wpHl.tk0 (i := 5) (d := some 24) (v := .bool true) rfl HS (by as_aux_lemma => kernel_rfl) rfl (fun _ _ _ h => h) (Or.inl ⟨by rfl, ?_⟩) HC0 ?_
          · intro u hC
            go_simp
          try simp only [Act.put, setIfInBounds_toArray, set_cons_zero, set_cons_succ]
          refine wpHl.one (i := 7) (by as_aux_lemma => kernel_rfl) rfl (fun KS hKS => ?_)
          rw [if_pos (by rfl)]
          obtain ⟨W9, hW9⟩ : ∃ W9, ud.setCells ub.heap.size 0 cv.L = W9 := ⟨_, rfl⟩
          refine wp_stV _ _ rfl ub.heap.size 0 rfl cv rfl (there_blk HZ.out (by decide)) ?_
          rw [hW9]
          replace K : Below w1.heap.size w1 W9 := by rw [← hW9]; exact below_cells K hge _ _
          clear HC0
          have HC0 := CC _ K
          refine hKS _ _ ⟨fun _ => HC0, ?_⟩
          clear hKS KS
          try simp only [Act.put, setIfInBounds_toArray, set_cons_zero, set_cons_succ]
          refine wpHl.tk0 (i := 8) (d := some 4) (v := .bool true) rfl HS (by as_aux_lemma => kernel_rfl) rfl (fun _ _ _ h => h) (Or.inl ⟨by rfl, ?_⟩) HC0 ?_
          · intro u hC
            go_simp
          try simp only [Act.put, setIfInBounds_toArray, set_cons_zero, set_cons_succ]
          refine wpHl.done (by as_aux_lemma => kernel_rfl) ?_ _
          clear CC HC0 HS
          have HX := hide (show BxR W9 ub.heap.size cv (whV 1) from ⟨by rw [← hW9]; exact World.rangeAt_setCells_same _ _ _ _ (there_blk HZ.out (show 0 + 8 ≤ 8 by decide)), by rw [← hW9, lv_sz]; exact (Array.getElem?_eq_some_iff.1 HZ.out).1, (VaOw.same HO.out ltz (fun j hj => by rw [← hW9]; exact lv_oth _ _ _ _ j hj)).reads⟩)
          clear hW9
          have HK := hide K
          clear K
          go_wp2_with fail
          go_meet
          case rel => exact ⟨_, cv, rfl, rfl, HX.out, HK.out⟩
      · skip
        obtain ⟨ub, hW6⟩ : ∃ W6, ua.alloc (.cells #[.int .i8 0, .int .u64 0, .bool false, .slice none 0 0, .int .u64 0, .int .i8 0, .string ⟨#[]⟩, .slice none 0 0] 31) = W6 := ⟨_, rfl⟩
        have hb : Below ua.heap.size ua ub := by rw [← hW6]; exact bel_new _ _
        have HZ := hide (show ub.heap[ua.heap.size]? = some (.cells #[.int .i8 0, .int .u64 0, .bool false, .slice none 0 0, .int .u64 0, .int .i8 0, .string ⟨#[]⟩, .slice none 0 0] 31 (0, 0)) by rw [← hW6]; exact heap_alloc_new _ _)
        have hge := K.size
        rw [if_pos (by rfl)]
        go_simp
        try rw [hW6]
        clear hW6
        replace K := below_trans K hb
        clear HC0
        have HC0 := CC _ K
        refine hK1 _ _ ⟨fun _ => HC0, ?_⟩
        clear hK1 K1
        try simp only [Act.put, setIfInBounds_toArray, set_cons_zero, set_cons_succ]
        have ltz : ua.heap.size < ub.heap.size := (Array.getElem?_eq_some_iff.1 HZ.out).1
        clear hb
        refine wpHl.one (i := 1) (by as_aux_lemma => kernel_rfl) rfl (fun K2 hK2 => ?_)
        rw [if_pos (by rfl)]
        refine wp_call_of (f := 37) (args := #[.string ⟨#[98]⟩]) (by kernel_rfl) ?_
        with_reducible refine (HT.out _ 98 ⟨#[98]⟩ rfl).mono ?_
        rintro e uc ⟨rfl, hb⟩
        replace HZ := hide ((hb.block _ ltz).trans HZ.out)
        replace ltz := Nat.lt_of_lt_of_le ltz hb.size
        replace K := below_trans K hb
        clear HC0
        have HC0 := CC _ K
        refine hK2 (Act.put _ (some 21) _) _ ⟨fun _ => HC0, ?_⟩
        clear hK2 K2
        try simp only [Act.put, setIfInBounds_toArray, set_cons_zero, set_cons_succ]
        clear hb
        refine wpHl.one (i := 2) (by as_aux_lemma => kernel_rfl) rfl (fun K3 hK3 => ?_)
        rw [if_pos (by rfl)]
        refine wp_call_of (f := 39) (args := #[cm.V, (txC ⟨#[98]⟩).V]) (by kernel_rfl) ?_
        with_reducible refine (HF2.out _ K).mono ?_
        rintro e ud ⟨⟨cv, rfl, hO⟩, hb⟩
        replace HZ := hide ((hb.block _ ltz).trans HZ.out)
        replace K := below_trans K hb
        clear HC0
        have HC0 := CC _ K
        refine hK3 (Act.put _ (some 22) _) _ ⟨fun _ => HC0, ?_⟩
        clear hK3 K3
        try simp only [Act.put, setIfInBounds_toArray, set_cons_zero, set_cons_succ]
        have HO := hide hO
        clear hb
        refine wpHl.tk0 (i := 3) (d := some 19) (v := .tuple #[cv.V, .bool true]) rfl HS (by as_aux_lemma => kernel_rfl) rfl (fun _ _ _ h => h) (Or.inl ⟨by rfl, ?_⟩) HC0 ?_
        · intro u hC
          go_simp
        try simp only [Act.put, setIfInBounds_toArray, set_cons_zero, set_cons_succ]
        refine wpHl.tk0 (i := 4) (d := some 23) (v := cv.V) rfl HS (by as_aux_lemma => kernel_rfl) rfl (fun _ _ _ h => h) (Or.inl ⟨by rfl, ?_⟩) HC0 ?_
        · intro u hC
          go_simp
        try simp only [Act.put, setIfInBounds_toArray, set_cons_zero, set_cons_succ]
        refine wpHl.tk0 (i := 5) (d := some 24) (v := .bool true) rfl HS (by as_aux_lemma => kernel_rfl) rfl (fun _ _ _ h => h) (Or.inl ⟨by rfl, ?_⟩) HC0 ?_
        · intro u hC
          go_simp
        try simp only [Act.put, setIfInBounds_toArray, set_cons_zero, set_cons_succ]
        refine wpHl.one (i := 7) (by as_aux_lemma => kernel_rfl) rfl (fun KS hKS => ?_)
        rw [if_pos (by rfl)]
        obtain ⟨W9, hW9⟩ : ∃ W9, ud.setCells ua.heap.size 0 cv.L = W9 := ⟨_, rfl⟩
        refine wp_stV _ _ rfl ua.heap.size 0 rfl cv rfl (there_blk HZ.out (by decide)) ?_
        rw [hW9]
        replace K : Below w1.heap.size w1 W9 := by rw [← hW9]; exact below_cells K hge _ _
        clear HC0
        have HC0 := CC _ K
        refine hKS _ _ ⟨fun _ => HC0, ?_⟩
        clear hKS KS
        try simp only [Act.put, setIfInBounds_toArray, set_cons_zero, set_cons_succ]
        refine wpHl.tk0 (i := 8) (d := some 4) (v := .bool true) rfl HS (by as_aux_lemma => kernel_rfl) rfl (fun _ _ _ h => h) (Or.inl ⟨by rfl, ?_⟩) HC0 ?_
        · intro u hC
          go_simp
        try simp only [Act.put, setIfInBounds_toArray, set_cons_zero, set_cons_succ]
        refine wpHl.done (by as_aux_lemma => kernel_rfl) ?_ _
        clear CC HC0 HS
        have HX := hide (show BxR W9 ua.heap.size cv (whV 1) from ⟨by rw [← hW9]; exact World.rangeAt_setCells_same _ _ _ _ (there_blk HZ.out (show 0 + 8 ≤ 8 by decide)), by rw [← hW9, lv_sz]; exact (Array.getElem?_eq_some_iff.1 HZ.out).1, (VaOw.same HO.out ltz (fun j hj => by rw [← hW9]; exact lv_oth _ _ _ _ j hj)).reads⟩)
        clear hW9
        have HK := hide K
        clear K
        go_wp2_with fail
        go_meet
        case rel => exact ⟨_, cv, rfl, rfl, HX.out, HK.out⟩
    case rest =>
      obtain ⟨b3, cv, rfl, rfl, hX, hb⟩ := hcut
      rename World => w2
      have HX2 := hide hX
      have HM2 := hide (HM1.out.below hb)
      have HB2 := hide (HB1.out.trans (hb.mono HB1.out.size))
      clear hX hb HF2
      go_upto_region 3 with fail
      have HF3 := hide (fun (W : World) (hW : Below w2.heap.size w2 W) => show Calls Tryz.prog 39 #[cm.V, (txC ⟨#[99]⟩).V] W fun e w' => e = .returned (.tuple #[zeC.V, .bool false]) ∧ Below W.heap.size W w' from by
        have h := find_any (HE.out.below (HB2.out.trans (hW.mono HB2.out.size))) (HM2.out.bx.rd.far hW) (ck := txC ⟨#[99]⟩) (key := txV [99]) (good_tx (txb 99 (by omega) (by omega)) (by simp) W).rd (by first | decide | exact lv_pts_m14) (Nat.le_trans (Nat.le_of_eq (vp_tx _)) (by omega))
        refine h.mono fun e w' h => ⟨?_, h.2⟩
        obtain ⟨⟨u, rfl, hu⟩, -⟩ := h
        rw [lv_find_c] at hu
        obtain rfl := hu
        rfl)
      go_cut [5, 6] from 10 (fun s5 s6 w' => s6 = .bool false ∧ Below w2.heap.size w2 w')
      case first =>
        have CC : ∀ u : World, Below w2.heap.size w2 u → u.rangeAt b1 0 cm.L := fun u hu => Below.range HM2.out.bx.row hu HM2.out.bx.lt
        have K : Below w2.heap.size w2 w2.drew := (Below.refl _ _).drew
        have HC0 := CC _ K
        refine wpHl.region0 (C := fun u => u.rangeAt b1 0 cm.L) (by kernel_rfl) (by kernel_rfl) (fun HS => ?_)
        generalize w2.drew = ua at *
        refine wpHl.tk0 (i := 0) (d := some 26) (v := cm.V) rfl HS (by as_aux_lemma => kernel_rfl) rfl (fun _ _ _ h => h) (Or.inl ⟨by rfl, ?_⟩) HC0 ?_
        · intro u hC
          exact run_ldV rfl rfl hC
        try simp only [Act.put, setIfInBounds_toArray, set_cons_zero, set_cons_succ]
        refine wpHl.two (i := 1) (j := 6) (by as_aux_lemma => kernel_rfl) rfl rfl (fun K1 hK1 => ?_) (fun K1 hK1 => ?_)
        · skip
          rw [if_pos (by rfl)]
          refine wp_call_of (f := 37) (args := #[.string ⟨#[99]⟩]) (by kernel_rfl) ?_
          with_reducible refine (HT.out _ 99 ⟨#[99]⟩ rfl).mono ?_
          rintro e ub ⟨rfl, hb⟩
          replace K := below_trans K hb
          clear HC0
          have HC0 := CC _ K
          refine hK1 (Act.put _ (some 27) _) _ ⟨fun _ => HC0, ?_⟩
          clear hK1 K1
          try simp only [Act.put, setIfInBounds_toArray, set_cons_zero, set_cons_succ]
          clear hb
          refine wpHl.two (i := 2) (j := 6) (by as_aux_lemma => kernel_rfl) rfl rfl (fun K1 hK1 => ?_) (fun K1 hK1 => ?_)
          · skip
            rw [if_pos (by rfl)]
            refine wp_call_of (f := 39) (args := #[cm.V, (txC ⟨#[99]⟩).V]) (by kernel_rfl) ?_
            with_reducible refine (HF3.out _ K).mono ?_
            rintro e uc ⟨⟨rfl⟩, hb⟩
            replace K := below_trans K hb
            clear HC0
            have HC0 := CC _ K
            refine hK1 (Act.put _ (some 28) _) _ ⟨fun _ => HC0, ?_⟩
            clear hK1 K1
            try simp only [Act.put, setIfInBounds_toArray, set_cons_zero, set_cons_succ]
            clear hb
            refine wpHl.tk0 (i := 3) (d := some 25) (v := .tuple #[zeC.V, .bool false]) rfl HS (by as_aux_lemma => kernel_rfl) rfl (fun _ _ _ h => h) (Or.inl ⟨by rfl, ?_⟩) HC0 ?_
            · intro u hC
              go_simp
            try simp only [Act.put, setIfInBounds_toArray, set_cons_zero, set_cons_succ]
            refine wpHl.tk0 (i := 4) (d := some 29) (v := zeC.V) rfl HS (by as_aux_lemma => kernel_rfl) rfl (fun _ _ _ h => h) (Or.inl ⟨by rfl, ?_⟩) HC0 ?_
            · intro u hC
              go_simp
            try simp only [Act.put, setIfInBounds_toArray, set_cons_zero, set_cons_succ]
            refine wpHl.tk0 (i := 5) (d := some 30) (v := .bool false) rfl HS (by as_aux_lemma => kernel_rfl) rfl (fun _ _ _ h => h) (Or.inl ⟨by rfl, ?_⟩) HC0 ?_
            · intro u hC
              go_simp
            try simp only [Act.put, setIfInBounds_toArray, set_cons_zero, set_cons_succ]
            refine wpHl.one (i := 6) (by as_aux_lemma => kernel_rfl) rfl (fun K2 hK2 => ?_)
            obtain ⟨ud, hW6⟩ : ∃ W6, uc.alloc (.cells #[.int .i8 0, .int .u64 0, .bool false, .slice none 0 0, .int .u64 0, .int .i8 0, .string ⟨#[]⟩, .slice none 0 0] 31) = W6 := ⟨_, rfl⟩
            have hb : Below uc.heap.size uc ud := by rw [← hW6]; exact bel_new _ _
            have HZ := hide (show ud.heap[uc.heap.size]? = some (.cells #[.int .i8 0, .int .u64 0, .bool false, .slice none 0 0, .int .u64 0, .int .i8 0, .string ⟨#[]⟩, .slice none 0 0] 31 (0, 0)) by rw [← hW6]; exact heap_alloc_new _ _)
            have hge := K.size
            rw [if_pos (by rfl)]
            go_simp
            try rw [hW6]
            clear hW6
            replace K := below_trans K hb
            clear HC0
            have HC0 := CC _ K
            refine hK2 _ _ ⟨fun _ => HC0, ?_⟩
            clear hK2 K2
            try simp only [Act.put, setIfInBounds_toArray, set_cons_zero, set_cons_succ]
            refine wpHl.one (i := 7) (by as_aux_lemma => kernel_rfl) rfl (fun KS hKS => ?_)
            rw [if_pos (by rfl)]
            obtain ⟨W9, hW9⟩ : ∃ W9, ud.setCells uc.heap.size 0 zeC.L = W9 := ⟨_, rfl⟩
            refine wp_stV _ _ rfl uc.heap.size 0 rfl zeC rfl (there_blk HZ.out (by decide)) ?_
            rw [hW9]
            replace K : Below w2.heap.size w2 W9 := by rw [← hW9]; exact below_cells K hge _ _
            clear HC0
            have HC0 := CC _ K
            refine hKS _ _ ⟨fun _ => HC0, ?_⟩
            clear hKS KS
            try simp only [Act.put, setIfInBounds_toArray, set_cons_zero, set_cons_succ]
            refine wpHl.tk0 (i := 8) (d := some 6) (v := .bool false) rfl HS (by as_aux_lemma => kernel_rfl) rfl (fun _ _ _ h => h) (Or.inl ⟨by rfl, ?_⟩) HC0 ?_
            · intro u hC
              go_simp
            try simp only [Act.put, setIfInBounds_toArray, set_cons_zero, set_cons_succ]
            refine wpHl.done (by as_aux_lemma => kernel_rfl) ?_ _
            clear CC HC0 HS
            clear hW9
            have HK := hide K
            clear K
            go_wp2_with fail
            go_meet
            case rel => exact ⟨rfl, HK.out⟩
          · skip
            obtain ⟨uc, hW6⟩ : ∃ W6, ub.alloc (.cells #[.int .i8 0, .int .u64 0, .bool false, .slice none 0 0, .int .u64 0, .int .i8 0, .string ⟨#[]⟩, .slice none 0 0] 31) = W6 := ⟨_, rfl⟩
            have hb : Below ub.heap.size ub uc := by rw [← hW6]; exact bel_new _ _
            have HZ := hide (show uc.heap[ub.heap.size]? = some (.cells #[.int .i8 0, .int .u64 0, .bool false, .slice none 0 0, .int .u64 0, .int .i8 0, .string ⟨#[]⟩, .slice none 0 0] 31 (0, 0)) by rw [← hW6]; exact heap_alloc_new _ _)
            have hge := K.size
            rw [if_pos (by rfl)]
            go_simp
            try rw [hW6]
            clear hW6
            replace K := below_trans K hb
            clear HC0
            have HC0 := CC _ K
            refine hK1 _ _ ⟨fun _ => HC0, ?_⟩
            clear hK1 K1
            try simp only [Act.put, setIfInBounds_toArray, set_cons_zero, set_cons_succ]
            have ltz : ub.heap.size < uc.heap.size := (Array.getElem?_eq_some_iff.1 HZ.out).1
            clear hb
            refine wpHl.one (i := 2) (by as_aux_lemma => kernel_rfl) rfl (fun K2 hK2 => ?_)
            rw [if_pos (by rfl)]
            refine wp_call_of (f := 39) (args := #[cm.V, (txC ⟨#[99]⟩).V]) (by kernel_rfl) ?_
            with_reducible refine (HF3.out _ K).mono ?_
            rintro e ud ⟨⟨rfl⟩, hb⟩
            replace HZ := hide ((hb.block _ ltz).trans HZ.out)
            replace K := below_trans K hb
            clear HC0
            have HC0 := CC _ K
            refine hK2 (Act.put _ (some 28) _) _ ⟨fun _ => HC0, ?_⟩
            clear hK2 K2
            try simp only [Act.put, setIfInBounds_toArray, set_cons_zero, set_cons_succ]
            clear hb
            refine wpHl.tk0 (i := 3) (d := some 25) (v := .tuple #[zeC.V, .bool false]) rfl HS (by as_aux_lemma => kernel_rfl) rfl (fun _ _ _ h => h) (Or.inl ⟨by rfl, ?_⟩) HC0 ?_
            · intro u hC
              go_simp
            try simp only [Act.put, setIfInBounds_toArray, set_cons_zero, set_cons_succ]
            refine wpHl.tk0 (i := 4) (d := some 29) (v := zeC.V) rfl HS (by as_aux_lemma => kernel_rfl) rfl (fun _ _ _ h => h) (Or.inl ⟨by rfl, ?_⟩) HC0 ?_
            · intro u hC
              go_simp
            try simp only [Act.put, setIfInBounds_toArray, set_cons_zero, set_cons_succ]
            refine wpHl.tk0 (i := 5) (d := some 30) (v := .bool false) rfl HS (by as_aux_lemma => kernel_rfl) rfl (fun _ _ _ h => h) (Or.inl ⟨by rfl, ?_⟩) HC0 ?_
            · intro u hC
              go_simp
            try simp only [Act.put, setIfInBounds_toArray, set_cons_zero, set_cons_succ]
            refine wpHl.one (i := 7) (by as_aux_lemma => kernel_rfl) rfl (fun KS hKS => ?_)
            rw [if_pos (by rfl)]
            obtain ⟨W9, hW9⟩ : ∃ W9, ud.setCells ub.heap.size 0 zeC.L = W9 := ⟨_, rfl⟩
            refine wp_stV _ _ rfl ub.heap.size 0 rfl zeC rfl (there_blk HZ.out (by decide)) ?_
            rw [hW9]
            replace K : Below w2.heap.size w2 W9 := by rw [← hW9]; exact below_cells K hge _ _
            clear HC0
            have HC0 := CC _ K
            refine hKS _ _ ⟨fun _ => HC0, ?_⟩
            clear hKS KS
            try simp only [Act.put, setIfInBounds_toArray, set_cons_zero, set_cons_succ]
            refine wpHl.tk0 (i := 8) (d := some 6) (v := .bool false) rfl HS (by as_aux_lemma => kernel_rfl) rfl (fun _ _ _ h => h) (Or.inl ⟨by rfl, ?_⟩) HC0 ?_
            · intro u hC
              go_simp
            try simp only [Act.put, setIfInBounds_toArray, set_cons_zero, set_cons_succ]
            refine wpHl.done (by as_aux_lemma => kernel_rfl) ?_ _
            clear CC HC0 HS
            clear hW9
            have HK := hide K
            clear K
            go_wp2_with fail
            go_meet
            case rel => exact ⟨rfl, HK.out⟩
        · skip
          obtain ⟨ub, hW6⟩ : ∃ W6, ua.alloc (.cells #[.int .i8 0, .int .u64 0, .bool false, .slice none 0 0, .int .u64 0, .int .i8 0, .string ⟨#[]⟩, .slice none 0 0] 31) = W6 := ⟨_, rfl⟩
          have hb : Below ua.heap.size ua ub := by rw [← hW6]; exact bel_new _ _
          have HZ := hide (show ub.heap[ua.heap.size]? = some (.cells #[.int .i8 0, .int .u64 0, .bool false, .slice none 0 0, .int .u64 0, .int .i8 0, .string ⟨#[]⟩, .slice none 0 0] 31 (0, 0)) by rw [← hW6]; exact heap_alloc_new _ _)
          have hge := K.size
          rw [if_pos (by rfl)]
          go_simp
          try rw [hW6]
          clear hW6
          replace K := below_trans K hb
          clear HC0
          have HC0 := CC _ K
          refine hK1 _ _ ⟨fun _ => HC0, ?_⟩
          clear hK1 K1
          try simp only [Act.put, setIfInBounds_toArray, set_cons_zero, set_cons_succ]
          have ltz : ua.heap.size < ub.heap.size := (Array.getElem?_eq_some_iff.1 HZ.out).1
          clear hb
          refine wpHl.one (i := 1) (by as_aux_lemma => kernel_rfl) rfl (fun K2 hK2 => ?_)
          rw [if_pos (by rfl)]
          refine wp_call_of (f := 37) (args := #[.string ⟨#[99]⟩]) (by kernel_rfl) ?_
          with_reducible refine (HT.out _ 99 ⟨#[99]⟩ rfl).mono ?_
          rintro e uc ⟨rfl, hb⟩
          replace HZ := hide ((hb.block _ ltz).trans HZ.out)
          replace ltz := Nat.lt_of_lt_of_le ltz hb.size
          replace K := below_trans K hb
          clear HC0
          have HC0 := CC _ K
          refine hK2 (Act.put _ (some 27) _) _ ⟨fun _ => HC0, ?_⟩
          clear hK2 K2
          try simp only [Act.put, setIfInBounds_toArray, set_cons_zero, set_cons_succ]
          clear hb
          refine wpHl.one (i := 2) (by as_aux_lemma => kernel_rfl) rfl (fun K3 hK3 => ?_)
          rw [if_pos (by rfl)]
          refine wp_call_of (f := 39) (args := #[cm.V, (txC ⟨#[99]⟩).V]) (by kernel_rfl) ?_
          with_reducible refine (HF3.out _ K).mono ?_
          rintro e ud ⟨⟨rfl⟩, hb⟩
          replace HZ := hide ((hb.block _ ltz).trans HZ.out)
          replace K := below_trans K hb
          clear HC0
          have HC0 := CC _ K
          refine hK3 (Act.put _ (some 28) _) _ ⟨fun _ => HC0, ?_⟩
          clear hK3 K3
          try simp only [Act.put, setIfInBounds_toArray, set_cons_zero, set_cons_succ]
          clear hb
          refine wpHl.tk0 (i := 3) (d := some 25) (v := .tuple #[zeC.V, .bool false]) rfl HS (by as_aux_lemma => kernel_rfl) rfl (fun _ _ _ h => h) (Or.inl ⟨by rfl, ?_⟩) HC0 ?_
          · intro u hC
            go_simp
          try simp only [Act.put, setIfInBounds_toArray, set_cons_zero, set_cons_succ]
          refine wpHl.tk0 (i := 4) (d := some 29) (v := zeC.V) rfl HS (by as_aux_lemma => kernel_rfl) rfl (fun _ _ _ h => h) (Or.inl ⟨by rfl, ?_⟩) HC0 ?_
          · intro u hC
            go_simp
          try simp only [Act.put, setIfInBounds_toArray, set_cons_zero, set_cons_succ]
          refine wpHl.tk0 (i := 5) (d := some 30) (v := .bool false) rfl HS (by as_aux_lemma => kernel_rfl) rfl (fun _ _ _ h => h) (Or.inl ⟨by rfl, ?_⟩) HC0 ?_
          · intro u hC
            go_simp
          try simp only [Act.put, setIfInBounds_toArray, set_cons_zero, set_cons_succ]
          refine wpHl.one (i := 7) (by as_aux_lemma => kernel_rfl) rfl (fun KS hKS => ?_)
          rw [if_pos (by rfl)]
          obtain ⟨W9, hW9⟩ : ∃ W9, ud.setCells ua.heap.size 0 zeC.L = W9 := ⟨_, rfl⟩
          refine wp_stV _ _ rfl ua.heap.size 0 rfl zeC rfl (there_blk HZ.out (by decide)) ?_
          rw [hW9]
          replace K : Below w2.heap.size w2 W9 := by rw [← hW9]; exact below_cells K hge _ _
          clear HC0
          have HC0 := CC _ K
          refine hKS _ _ ⟨fun _ => HC0, ?_⟩
          clear hKS KS
          try simp only [Act.put, setIfInBounds_toArray, set_cons_zero, set_cons_succ]
          refine wpHl.tk0 (i := 8) (d := some 6) (v := .bool false) rfl HS (by as_aux_lemma => kernel_rfl) rfl (fun _ _ _ h => h) (Or.inl ⟨by rfl, ?_⟩) HC0 ?_
          · intro u hC
            go_simp
          try simp only [Act.put, setIfInBounds_toArray, set_cons_zero, set_cons_succ]
          refine wpHl.done (by as_aux_lemma => kernel_rfl) ?_ _
          clear CC HC0 HS
          clear hW9
          have HK := hide K
          clear K
          go_wp2_with fail
          go_meet
          case rel => exact ⟨rfl, HK.out⟩
      case rest =>
        obtain ⟨rfl, hb⟩ := hcut
        rename World => w3
        rename Value => s5
        have HX3 := hide (HX2.out.below hb)
        have HM3 := hide (HM2.out.below hb)
        have HB3 := hide (HB2.out.trans (hb.mono HB2.out.size))
        clear hb HF3
        go_upto_region 4 with fail
        have HCL := hide (fun (W : World) (hW : Below w3.heap.size w3 W) (g : Nat) (vm : Value) (h : W.heap[g]? = some (.cells (flatV [(whV 1, vm, .slice none 0 0), (zeV, .slice none 0 0, .slice none 0 0)]).toArray 31 (0, 0))) (hg : ∀ q ∈ [(whV 1, vm, .slice none 0 0), (zeV, .slice none 0 0, .slice none 0 0)], GoodV W q) =>
          show Calls Tryz.prog 12 #[.agg #[.int .i8 7, .int .u64 0, .bool false, .slice none 0 0, .int .u64 0, .int .i8 0, .string ⟨#[]⟩, .slice (some ⟨g, 0, none⟩) 2 2]] W fun e w' => (∃ g7, e = .returned (.iface 62 (.pointer (some ⟨g7, 0, none⟩))) ∧ FlW w' g7 (evA a 0) ⟨#[47, 49]⟩) ∧ Below W.heap.size W w' from by
            refine ((HE.out.below (HB3.out.trans (hW.mono HB3.out.size))).check (li_rd h hg) li_pts).mono fun e w' h => ⟨?_, h.2⟩
            obtain ⟨⟨u, rfl, hu⟩, -⟩ := h
            rw [lv_chk_li] at hu
            obtain ⟨g7, -, rfl, hf⟩ := hu
            rw [lv_path] at hf
            exact ⟨g7, rfl, hf⟩)
        go_cut [7] from 10 (fun s7 w' => ∃ g7, s7 = .iface 62 (.pointer (some ⟨g7, 0, none⟩)) ∧ FlW w' g7 (evA a 0) ⟨#[47, 49]⟩ ∧ Below w3.heap.size w3 w')
        case first =>
          go_wp2_with (first | (go_at_call 38; (with_reducible refine (whole_is 1 (by decide) (by decide)).mono ?_); rintro e w4 ⟨⟨a4, c4, rfl, g4⟩, hb4⟩) | (refine wpList_bs2 rfl _ _ rfl (whV 1) zeV (m0 := .slice a4 (whV 1).mag.length c4) (k0 := .slice none 0 0) (m1 := .slice none 0 0) (k1 := .slice none 0 0) rfl rfl ?_; (obtain ⟨W5, hW5⟩ : ∃ W5, w4.alloc (.cells (flatV [(whV 1, .slice a4 (whV 1).mag.length c4, .slice none 0 0), (zeV, .slice none 0 0, .slice none 0 0)]).toArray 31) = W5 := ⟨_, rfl⟩); have k5 : Below w4.heap.size w4 W5 := (by rw [← hW5]; exact (Below.refl _ _).alloc (Nat.le_refl _) _); have n5 : W5.heap[w4.heap.size]? = some (.cells (flatV [(whV 1, .slice a4 (whV 1).mag.length c4, .slice none 0 0), (zeV, .slice none 0 0, .slice none 0 0)]).toArray 31 (0, 0)) := (by rw [← hW5]; exact heap_alloc_new _ _); have gm := (two_of (g4.far k5) (good_ze W5)); have k6 := hb4.trans (k5.mono hb4.size); rw [hW5]; clear hW5; try simp only [Act.put, setIfInBounds_toArray, set_cons_zero, set_cons_succ]) | (go_at_call 12; (with_reducible refine (HCL.out _ k6 _ _ n5 gm).mono ?_); rintro e w6 ⟨⟨g7, rfl, hf⟩, hb6⟩; have HF7 := hide hf; have HB6 := hide (k6.trans (hb6.mono k6.size)); clear hf hb6))
          go_meet
          case rel => exact ⟨g7, rfl, HF7.out, HB6.out⟩
        case rest =>
          obtain ⟨g7, rfl, hf, hb⟩ := hcut
          rename World => w4
          have HF7 := hide hf
          have HX4 := hide (HX3.out.below hb)
          have HM4 := hide (HM3.out.below hb)
          have HB4 := hide (HB3.out.trans (hb.mono HB3.out.size))
          clear hb hf HCL
          go_upto_region 5 with fail
          go_cut [8, 9] from 10 (fun s8 s9 w' => ∃ g9, s9 = .iface 62 (.pointer (some ⟨g9, 0, none⟩)) ∧ FlA w' g9 (evA a 2) 1 ∧ Below w4.heap.size w4 w')
          case first =>
            go_wp2_with (first | (go_at_call 38; (with_reducible refine (whole_is 0 (by decide) (by decide)).mono ?_); rintro e w13 ⟨⟨a13, c13, rfl, g13⟩, hb13⟩; replace g11 := g11.far hb13; replace g12 := g12.far hb13; replace hb13 := hb12.trans (hb13.mono hb12.size)) | (go_at_call 38; (with_reducible refine (whole_is 1 (by decide) (by decide)).mono ?_); rintro e w12 ⟨⟨a12, c12, rfl, g12⟩, hb12⟩; replace g11 := g11.far hb12; replace hb12 := hb11.trans (hb12.mono hb11.size)) | (go_at_call 38; (with_reducible refine (whole_is 0 (by decide) (by decide)).mono ?_); rintro e w11 ⟨⟨a11, c11, rfl, g11⟩, hb11⟩) | (go_at_call 38; (with_reducible refine (whole_is 2 (by decide) (by decide)).mono ?_); rintro e w14 ⟨⟨a14, c14, rfl, g14⟩, hb14⟩; replace g11 := g11.far hb14; replace g12 := g12.far hb14; replace g13 := g13.far hb14; replace hb14 := hb13.trans (hb14.mono hb13.size)) | (refine wpList_bs4 rfl _ _ _ _ rfl (whV 0) (whV 1) (whV 0) (whV 2) rfl rfl rfl rfl ?_; (obtain ⟨W5, hW5⟩ : ∃ W5, w14.alloc (.cells (flatV [(whV 0, .slice a11 (whV 0).mag.length c11, .slice none 0 0), (whV 1, .slice a12 (whV 1).mag.length c12, .slice none 0 0), (whV 0, .slice a13 (whV 0).mag.length c13, .slice none 0 0), (whV 2, .slice a14 (whV 2).mag.length c14, .slice none 0 0)]).toArray 31) = W5 := ⟨_, rfl⟩); have k5 : Below w14.heap.size w14 W5 := (by rw [← hW5]; exact (Below.refl _ _).alloc (Nat.le_refl _) _); have n5 : W5.heap[w14.heap.size]? = some (.cells (flatV [(whV 0, .slice a11 (whV 0).mag.length c11, .slice none 0 0), (whV 1, .slice a12 (whV 1).mag.length c12, .slice none 0 0), (whV 0, .slice a13 (whV 0).mag.length c13, .slice none 0 0), (whV 2, .slice a14 (whV 2).mag.length c14, .slice none 0 0)]).toArray 31 (0, 0)) := (by rw [← hW5]; exact heap_alloc_new _ _); have gm : ∀ q ∈ [(whV 0, .slice a11 (whV 0).mag.length c11, .slice none 0 0), (whV 1, .slice a12 (whV 1).mag.length c12, .slice none 0 0), (whV 0, .slice a13 (whV 0).mag.length c13, .slice none 0 0), (whV 2, .slice a14 (whV 2).mag.length c14, .slice none 0 0)], GoodV W5 q := (four_of (g11.far k5) (g12.far k5) (g13.far k5) (g14.far k5)); rw [hW5]; clear hW5; try simp only [Act.put, setIfInBounds_toArray, set_cons_zero, set_cons_succ]) | (go_at_call 36; (with_reducible refine (HMP.out _ (HB4.out.trans ((hb14.trans (k5.mono hb14.size)).mono HB4.out.size)) _ [(whV 0, .slice a11 (whV 0).mag.length c11, .slice none 0 0), (whV 1, .slice a12 (whV 1).mag.length c12, .slice none 0 0), (whV 0, .slice a13 (whV 0).mag.length c13, .slice none 0 0), (whV 2, .slice a14 (whV 2).mag.length c14, .slice none 0 0)] n5 gm rfl (four_of (Nat.le_trans (vp_wh _) (by omega)) (Nat.le_trans (vp_wh _) (by omega)) (Nat.le_trans (vp_wh _) (by omega)) (Nat.le_trans (vp_wh _) (by omega))) (four_of (lv_chk_leaf (lv_alo_wh (by omega) (by omega)) rfl) (lv_chk_leaf (lv_alo_wh (by omega) (by omega)) rfl) (lv_chk_leaf (lv_alo_wh (by omega) (by omega)) rfl) (lv_chk_leaf (lv_alo_wh (by omega) (by omega)) rfl))).mono ?_); rintro e w6 ⟨⟨u, rfl, hu⟩, hb6⟩; obtain ⟨g9, hg9, rfl, hf⟩ := lv_map2z hu rfl; have HF9 := hide hf; have HB6 := hide ((hb14.trans (k5.mono hb14.size)).trans (hb6.mono (Nat.le_trans hb14.size k5.size))); have HTH := hide (there_new w6 31 #[.int .i8 0, .int .u64 0, .bool false, .slice none 0 0, .int .u64 0, .int .i8 0, .string ⟨#[]⟩, .slice none 0 0] (n := 8) (by decide)); obtain ⟨W8, hW8⟩ : ∃ W8, (w6.alloc (.cells #[.int .i8 0, .int .u64 0, .bool false, .slice none 0 0, .int .u64 0, .int .i8 0, .string ⟨#[]⟩, .slice none 0 0] 31)).setCells w6.heap.size 0 zeC.L = W8 := ⟨_, rfl⟩; have HBX := hide (box_newb hW8); have HW8 := hide hW8; clear hu hf hg9 hb6 hW8 gm n5 k5) | (refine wpList_stV rfl _ _ rfl w6.heap.size 0 rfl zeC rfl HTH.out ?_; rw [HW8.out]; try simp only [Act.put, setIfInBounds_toArray, set_cons_zero, set_cons_succ]))
            go_meet
            case rel => exact ⟨g9, rfl, fla_below HF9.out HBX.out, HB6.out.trans (HBX.out.mono HB6.out.size)⟩
          case rest =>
            obtain ⟨g9, rfl, hf, hb⟩ := hcut
            rename World => w5
            rename Value => s8
            have HF9 := hide hf
            have HX5 := hide (HX4.out.below hb)
            have HM5 := hide (HM4.out.below hb)
            have HG5 := hide (HF7.out.below hb)
            have HB5 := hide (HB4.out.trans (hb.mono HB4.out.size))
            clear hb hf HX2 HX3 HX4 HM1 HM2 HM3 HM4 HF7 HMP
            have HSM := hide (fun (W : World) (u v : Value) (h1 : VaRd W u (whV 1)) (h2 : VaRd W v (whV 1)) => (show Calls Tryz.prog 23 #[u, v] W fun e w' => e = .returned (.bool true) ∧ Below W.heap.size W w' from smv_any W u v h1 h2))
            have HCN := hide (fun (W : World) => (show Calls Tryz.prog 16 #[.nilIface] W fun e w' => e = .returned (.int .i64 0) ∧ Below W.heap.size W w' from hcode_nil.mono fun e w' h => ⟨h.1, by rw [h.2]; exact Below.refl _ _⟩))
            have HWH := hide (fun (W : World) => (show Calls Tryz.prog 38 #[.int .u32 1] W fun e w' => (∃ c : Cl, e = .returned c.V ∧ VaRd w' c.V (whV 1)) ∧ Below W.heap.size W w' from (whole_is 1 (by decide) (by decide)).mono fun e w' h => by
              obtain ⟨⟨ao, c, rfl, hg⟩, hb⟩ := h
              exact ⟨⟨_, congrArg Ending.returned (clQ_V hg).symm, hg.rd⟩, hb⟩))
            have HT2 := hide (fun (W : World) => (show Calls Tryz.prog 37 #[.string ⟨#[97, 98]⟩] W fun e w' => e = .returned (txC ⟨#[97, 98]⟩).V ∧ Below W.heap.size W w' from txt14 [97, 98] rfl))
            have HIP := hide (fun (W : World) (hW : Below w5.heap.size w5 W) => (show Calls Tryz.prog 17 #[.iface 62 (.pointer (some ⟨g7, 0, none⟩)), .int .i64 1, .string ⟨#[47, 49]⟩] W fun e w' => e = .returned (.bool true) ∧ Below W.heap.size W w' from (ispath1 (t := ⟨#[47, 49]⟩) (HS.out.below (HB5.out.trans (hW.mono HB5.out.size))) (HH.out.below (HB5.out.trans (hW.mono HB5.out.size))) (HG5.out.below hW)).mono fun e w' h => ⟨by rw [h.1, decide_eq_true rfl], h.2⟩))
            have HIA := hide (fun (W : World) (hW : Below w5.heap.size w5 W) => (show Calls Tryz.prog 40 #[.iface 62 (.pointer (some ⟨g9, 0, none⟩)), .int .i64 3, .int .i64 1] W fun e w' => e = .returned (.bool true) ∧ Below W.heap.size W w' from (isat3 (z := 1) (HS.out.below (HB5.out.trans (hW.mono HB5.out.size))) (HH.out.below (HB5.out.trans (hW.mono HB5.out.size))) (fla_below HF9.out hW)).mono fun e w' h => ⟨by rw [h.1, decide_eq_true rfl], h.2⟩))
            have HDP := hide (fun (W : World) (hW : Below w5.heap.size w5 W) => (show Calls Tryz.prog 26 #[cm.V] W fun e w' => e = .returned (.int .i64 1) ∧ Below W.heap.size W w' from ((vdepth_any lv_pts_m14) W _ (HM5.out.bx.rd.far hW)).mono fun e w' h => ⟨by rw [h.1, lv_dep_m14], h.2⟩))
            have HND := hide (fun (W : World) (hW : Below w5.heap.size w5 W) => (show Calls Tryz.prog 25 #[cm.V] W fun e w' => e = .returned (.int .i64 5) ∧ Below W.heap.size W w' from (nodes_cnt (HM5.out.bx.rd.far hW) lv_pts_m14).mono fun e w' h => ⟨by rw [h.1, lv_nod_m14]; rfl, h.2⟩))
            have HCP := hide (fun (W : World) (hW : Below w5.heap.size w5 W) => (show Calls Tryz.prog 19 #[(txC ⟨#[97]⟩).V, (txC ⟨#[97, 98]⟩).V] W fun e w' => e = .returned (.int .i64 (-1)) ∧ Below W.heap.size W w' from
              (lv_cmpw (HLY.out.below (HB5.out.trans (hW.mono HB5.out.size))))))
            have HCK := hide (fun (W : World) (hW : Below w5.heap.size w5 W) => (show Calls Tryz.prog 12 #[cm.V] W fun e w' => e = .returned .nilIface ∧ Below W.heap.size W w' from ((HE.out.below (HB5.out.trans (hW.mono HB5.out.size))).check (HM5.out.bx.rd.far hW) lv_pts_m14).mono fun e w' h => by
              obtain ⟨⟨u, rfl, hu⟩, hb⟩ := h
              rw [lv_chk_m14] at hu
              obtain rfl := hu
              exact ⟨rfl, hb⟩))
            have HXR := hide (fun (W : World) (hW : Below w5.heap.size w5 W) => HX5.out.rd.far hW)
            go_upto_region 6 with fail
            have CC : ∀ u : World, Below w5.heap.size w5 u → u.rangeAt b1 0 cm.L ∧ u.rangeAt b3 0 cv.L ∧ u.cell? ⟨b1, 7, none⟩ = some (.slice (some ⟨gk, 0, none⟩) 4 kc) ∧ u.cell? ⟨gk, 6, none⟩ = some (.string ⟨#[97]⟩) := fun u hu => ⟨Below.range HM5.out.bx.row hu HM5.out.bx.lt, Below.range HX5.out.row hu HX5.out.lt, (HM5.out.below hu).kids, (HM5.out.below hu).kid⟩
            have K : Below w5.heap.size w5 w5.drew := (Below.refl _ _).drew
            have HC0 := CC _ K
            refine wpHl.region0 (C := fun u => u.rangeAt b1 0 cm.L ∧ u.rangeAt b3 0 cv.L ∧ u.cell? ⟨b1, 7, none⟩ = some (.slice (some ⟨gk, 0, none⟩) 4 kc) ∧ u.cell? ⟨gk, 6, none⟩ = some (.string ⟨#[97]⟩)) (by kernel_rfl) (by kernel_rfl) (fun HS => ?_)
            refine wpHl.tk0 (i := 0) (d := some 45) (v := .nilIface) rfl HS (by as_aux_lemma => kernel_rfl) rfl (fun _ _ _ h => h) (Or.inl ⟨by rfl, ?_⟩) HC0 ?_
            · intro u hC
              go_simp
            simp only [Act.put, setIfInBounds_toArray, set_cons_zero, set_cons_succ]
            refine wpHl.one (i := 1) (by as_aux_lemma => kernel_rfl) rfl (fun K1 hK1 => ?_)
            rw [if_pos (by rfl)]
            refine wp_call_of (f := 16) (args := #[.nilIface]) (by kernel_rfl) ?_
            with_reducible refine (HCN.out _).mono ?_
            rintro e wn ⟨rfl, hb⟩
            replace K := below_trans K hb
            clear HC0
            have HC0 := CC _ K
            refine hK1 (Act.put _ (some 46) _) _ ⟨fun _ => HC0, ?_⟩
            clear hK1 K1 hb
            try simp only [Act.put, setIfInBounds_toArray, set_cons_zero, set_cons_succ]
            refine wpHl.tk0 (i := 2) (d := some 47) (v := .bool true) rfl HS (by as_aux_lemma => kernel_rfl) rfl (fun _ _ _ h => h) (Or.inl ⟨by rfl, ?_⟩) HC0 ?_
            · intro u hC
              go_simp
            simp only [Act.put, setIfInBounds_toArray, set_cons_zero, set_cons_succ]
            refine wpHl.tk0 (i := 3) (d := some 48) (v := .bool true) rfl HS (by as_aux_lemma => kernel_rfl) rfl (fun _ _ _ h => h) (Or.inl ⟨by rfl, ?_⟩) HC0 ?_
            · intro u hC
              go_simp
            simp only [Act.put, setIfInBounds_toArray, set_cons_zero, set_cons_succ]
            refine wpHl.tk0 (i := 4) (d := some 49) (v := .bool true) rfl HS (by as_aux_lemma => kernel_rfl) rfl (fun _ _ _ h => h) (Or.inl ⟨by rfl, ?_⟩) HC0 ?_
            · intro u hC
              go_simp
            simp only [Act.put, setIfInBounds_toArray, set_cons_zero, set_cons_succ]
            refine wpHl.tk0 (i := 5) (d := some 50) (v := .bool true) rfl HS (by as_aux_lemma => kernel_rfl) rfl (fun _ _ _ h => h) (Or.inl ⟨by rfl, ?_⟩) HC0 ?_
            · intro u hC
              go_simp
            simp only [Act.put, setIfInBounds_toArray, set_cons_zero, set_cons_succ]
            refine wpHl.tk0 (i := 6) (d := some 51) (v := .bool true) rfl HS (by as_aux_lemma => kernel_rfl) rfl (fun _ _ _ h => h) (Or.inl ⟨by rfl, ?_⟩) HC0 ?_
            · intro u hC
              go_simp
            simp only [Act.put, setIfInBounds_toArray, set_cons_zero, set_cons_succ]
            refine wpHl.tk0 (i := 7) (d := some 52) (v := .bool false) rfl HS (by as_aux_lemma => kernel_rfl) rfl (fun _ _ _ h => h) (Or.inl ⟨by rfl, ?_⟩) HC0 ?_
            · intro u hC
              go_simp
            simp only [Act.put, setIfInBounds_toArray, set_cons_zero, set_cons_succ]
            refine wpHl.tk0 (i := 8) (d := some 53) (v := .bool true) rfl HS (by as_aux_lemma => kernel_rfl) rfl (fun _ _ _ h => h) (Or.inl ⟨by rfl, ?_⟩) HC0 ?_
            · intro u hC
              go_simp
            simp only [Act.put, setIfInBounds_toArray, set_cons_zero, set_cons_succ]
            refine wpHl.tk0 (i := 9) (d := some 54) (v := .bool true) rfl HS (by as_aux_lemma => kernel_rfl) rfl (fun _ _ _ h => h) (Or.inl ⟨by rfl, ?_⟩) HC0 ?_
            · intro u hC
              go_simp
            simp only [Act.put, setIfInBounds_toArray, set_cons_zero, set_cons_succ]
            refine wpHl.tk0 (i := 10) (d := some 55) (v := .bool true) rfl HS (by as_aux_lemma => kernel_rfl) rfl (fun _ _ _ h => h) (Or.inl ⟨by rfl, ?_⟩) HC0 ?_
            · intro u hC
              go_simp
            simp only [Act.put, setIfInBounds_toArray, set_cons_zero, set_cons_succ]
            refine wpHl.tk0 (i := 11) (d := some 56) (v := cv.V) rfl HS (by as_aux_lemma => kernel_rfl) rfl (fun _ _ _ h => h) (Or.inl ⟨by rfl, ?_⟩) HC0 ?_
            · intro u hC
              exact run_ldV rfl rfl hC.2.1
            simp only [Act.put, setIfInBounds_toArray, set_cons_zero, set_cons_succ]
            refine wpHl.one (i := 12) (by as_aux_lemma => kernel_rfl) rfl (fun K1 hK1 => ?_)
            rw [if_pos (by rfl)]
            refine wp_call_of (f := 38) (args := #[.int .u32 1]) (by kernel_rfl) ?_
            with_reducible refine (HWH.out _).mono ?_
            rintro e wn ⟨⟨c57, rfl, hr57⟩, hb⟩
            replace K := below_trans K hb
            clear HC0
            have HC0 := CC _ K
            refine hK1 (Act.put _ (some 57) _) _ ⟨fun _ => HC0, ?_⟩
            clear hK1 K1 hb
            try simp only [Act.put, setIfInBounds_toArray, set_cons_zero, set_cons_succ]
            refine wpHl.one (i := 13) (by as_aux_lemma => kernel_rfl) rfl (fun K1 hK1 => ?_)
            rw [if_pos (by rfl)]
            refine wp_call_of (f := 23) (args := #[cv.V, c57.V]) (by kernel_rfl) ?_
            with_reducible refine (HSM.out _ _ _ (HXR.out _ K) hr57).mono ?_
            rintro e wn ⟨rfl, hb⟩
            replace K := below_trans K hb
            clear HC0
            have HC0 := CC _ K
            refine hK1 (Act.put _ (some 58) _) _ ⟨fun _ => HC0, ?_⟩
            clear hK1 K1 hb
            try simp only [Act.put, setIfInBounds_toArray, set_cons_zero, set_cons_succ]
            refine wpHl.tk0 (i := 14) (d := some 59) (v := .bool true) rfl HS (by as_aux_lemma => kernel_rfl) rfl (fun _ _ _ h => h) (Or.inl ⟨by rfl, ?_⟩) HC0 ?_
            · intro u hC
              go_simp
            simp only [Act.put, setIfInBounds_toArray, set_cons_zero, set_cons_succ]
            refine wpHl.tk0 (i := 15) (d := some 60) (v := .bool true) rfl HS (by as_aux_lemma => kernel_rfl) rfl (fun _ _ _ h => h) (Or.inl ⟨by rfl, ?_⟩) HC0 ?_
            · intro u hC
              go_simp
            simp only [Act.put, setIfInBounds_toArray, set_cons_zero, set_cons_succ]
            refine wpHl.tk0 (i := 16) (d := some 61) (v := .pointer (some ⟨b1, 7, none⟩)) rfl HS (by as_aux_lemma => kernel_rfl) rfl (fun _ _ _ h => h) (Or.inl ⟨by rfl, ?_⟩) HC0 ?_
            · intro u hC
              go_simp
            simp only [Act.put, setIfInBounds_toArray, set_cons_zero, set_cons_succ]
            refine wpHl.tk0 (i := 17) (d := some 62) (v := .slice (some ⟨gk, 0, none⟩) 4 kc) rfl HS (by as_aux_lemma => kernel_rfl) rfl (fun _ _ _ h => h) (Or.inl ⟨by rfl, ?_⟩) HC0 ?_
            · intro u hC
              obtain ⟨z0, z1, z2, z3⟩ := hC
              go_simp
            simp only [Act.put, setIfInBounds_toArray, set_cons_zero, set_cons_succ]
            refine wpHl.tk0 (i := 18) (d := some 63) (v := .int .i64 4) rfl HS (by as_aux_lemma => kernel_rfl) rfl (fun _ _ _ h => h) (Or.inl ⟨by rfl, ?_⟩) HC0 ?_
            · intro u hC
              go_simp
            simp only [Act.put, setIfInBounds_toArray, set_cons_zero, set_cons_succ]
            refine wpHl.tk0 (i := 19) (d := some 64) (v := .bool true) rfl HS (by as_aux_lemma => kernel_rfl) rfl (fun _ _ _ h => h) (Or.inl ⟨by rfl, ?_⟩) HC0 ?_
            · intro u hC
              go_simp
            simp only [Act.put, setIfInBounds_toArray, set_cons_zero, set_cons_succ]
            refine wpHl.tk0 (i := 20) (d := some 65) (v := .bool true) rfl HS (by as_aux_lemma => kernel_rfl) rfl (fun _ _ _ h => h) (Or.inl ⟨by rfl, ?_⟩) HC0 ?_
            · intro u hC
              go_simp
            simp only [Act.put, setIfInBounds_toArray, set_cons_zero, set_cons_succ]
            refine wpHl.tk0 (i := 21) (d := some 66) (v := .bool true) rfl HS (by as_aux_lemma => kernel_rfl) rfl (fun _ _ _ h => h) (Or.inl ⟨by rfl, ?_⟩) HC0 ?_
            · intro u hC
              go_simp
            simp only [Act.put, setIfInBounds_toArray, set_cons_zero, set_cons_succ]
            refine wpHl.tk0 (i := 22) (d := some 67) (v := .pointer (some ⟨b1, 7, none⟩)) rfl HS (by as_aux_lemma => kernel_rfl) rfl (fun _ _ _ h => h) (Or.inl ⟨by rfl, ?_⟩) HC0 ?_
            · intro u hC
              go_simp
            simp only [Act.put, setIfInBounds_toArray, set_cons_zero, set_cons_succ]
            refine wpHl.tk0 (i := 23) (d := some 68) (v := .slice (some ⟨gk, 0, none⟩) 4 kc) rfl HS (by as_aux_lemma => kernel_rfl) rfl (fun _ _ _ h => h) (Or.inl ⟨by rfl, ?_⟩) HC0 ?_
            · intro u hC
              obtain ⟨z0, z1, z2, z3⟩ := hC
              go_simp
            simp only [Act.put, setIfInBounds_toArray, set_cons_zero, set_cons_succ]
            refine wpHl.tk0 (i := 24) (d := some 69) (v := .pointer (some ⟨gk, 0, none⟩)) rfl HS (by as_aux_lemma => kernel_rfl) rfl (fun _ _ _ h => h) (Or.inl ⟨by rfl, ?_⟩) HC0 ?_
            · intro u hC
              go_simp
            simp only [Act.put, setIfInBounds_toArray, set_cons_zero, set_cons_succ]
            refine wpHl.tk0 (i := 25) (d := some 70) (v := .pointer (some ⟨gk, 6, none⟩)) rfl HS (by as_aux_lemma => kernel_rfl) rfl (fun _ _ _ h => h) (Or.inl ⟨by rfl, ?_⟩) HC0 ?_
            · intro u hC
              go_simp
            simp only [Act.put, setIfInBounds_toArray, set_cons_zero, set_cons_succ]
            refine wpHl.tk0 (i := 26) (d := some 71) (v := .string ⟨#[97]⟩) rfl HS (by as_aux_lemma => kernel_rfl) rfl (fun _ _ _ h => h) (Or.inl ⟨by rfl, ?_⟩) HC0 ?_
            · intro u hC
              obtain ⟨z0, z1, z2, z3⟩ := hC
              go_simp
            simp only [Act.put, setIfInBounds_toArray, set_cons_zero, set_cons_succ]
            refine wpHl.tk0 (i := 27) (d := some 72) (v := .bool true) rfl HS (by as_aux_lemma => kernel_rfl) rfl (fun _ _ _ h => h) (Or.inl ⟨by rfl, ?_⟩) HC0 ?_
            · intro u hC
              go_simp
            simp only [Act.put, setIfInBounds_toArray, set_cons_zero, set_cons_succ]
            refine wpHl.tk0 (i := 28) (d := some 73) (v := .bool true) rfl HS (by as_aux_lemma => kernel_rfl) rfl (fun _ _ _ h => h) (Or.inl ⟨by rfl, ?_⟩) HC0 ?_
            · intro u hC
              go_simp
            simp only [Act.put, setIfInBounds_toArray, set_cons_zero, set_cons_succ]
            refine wpHl.tk0 (i := 29) (d := some 74) (v := .bool true) rfl HS (by as_aux_lemma => kernel_rfl) rfl (fun _ _ _ h => h) (Or.inl ⟨by rfl, ?_⟩) HC0 ?_
            · intro u hC
              go_simp
            simp only [Act.put, setIfInBounds_toArray, set_cons_zero, set_cons_succ]
            refine wpHl.tk0 (i := 30) (d := some 75) (v := .iface 62 (.pointer (some ⟨g7, 0, none⟩))) rfl HS (by as_aux_lemma => kernel_rfl) rfl (fun _ _ _ h => h) (Or.inl ⟨by rfl, ?_⟩) HC0 ?_
            · intro u hC
              go_simp
            simp only [Act.put, setIfInBounds_toArray, set_cons_zero, set_cons_succ]
            refine wpHl.one (i := 31) (by as_aux_lemma => kernel_rfl) rfl (fun K1 hK1 => ?_)
            rw [if_pos (by rfl)]
            refine wp_call_of (f := 17) (args := #[.iface 62 (.pointer (some ⟨g7, 0, none⟩)), .int .i64 1, .string ⟨#[47, 49]⟩]) (by kernel_rfl) ?_
            with_reducible refine (HIP.out _ K).mono ?_
            rintro e wn ⟨rfl, hb⟩
            replace K := below_trans K hb
            clear HC0
            have HC0 := CC _ K
            refine hK1 (Act.put _ (some 76) _) _ ⟨fun _ => HC0, ?_⟩
            clear hK1 K1 hb
            try simp only [Act.put, setIfInBounds_toArray, set_cons_zero, set_cons_succ]
            refine wpHl.tk0 (i := 32) (d := some 77) (v := .bool true) rfl HS (by as_aux_lemma => kernel_rfl) rfl (fun _ _ _ h => h) (Or.inl ⟨by rfl, ?_⟩) HC0 ?_
            · intro u hC
              go_simp
            simp only [Act.put, setIfInBounds_toArray, set_cons_zero, set_cons_succ]
            refine wpHl.tk0 (i := 33) (d := some 78) (v := .bool true) rfl HS (by as_aux_lemma => kernel_rfl) rfl (fun _ _ _ h => h) (Or.inl ⟨by rfl, ?_⟩) HC0 ?_
            · intro u hC
              go_simp
            simp only [Act.put, setIfInBounds_toArray, set_cons_zero, set_cons_succ]
            refine wpHl.tk0 (i := 34) (d := some 79) (v := .iface 62 (.pointer (some ⟨g9, 0, none⟩))) rfl HS (by as_aux_lemma => kernel_rfl) rfl (fun _ _ _ h => h) (Or.inl ⟨by rfl, ?_⟩) HC0 ?_
            · intro u hC
              go_simp
            simp only [Act.put, setIfInBounds_toArray, set_cons_zero, set_cons_succ]
            refine wpHl.one (i := 35) (by as_aux_lemma => kernel_rfl) rfl (fun K1 hK1 => ?_)
            rw [if_pos (by rfl)]
            refine wp_call_of (f := 40) (args := #[.iface 62 (.pointer (some ⟨g9, 0, none⟩)), .int .i64 3, .int .i64 1]) (by kernel_rfl) ?_
            with_reducible refine (HIA.out _ K).mono ?_
            rintro e wn ⟨rfl, hb⟩
            replace K := below_trans K hb
            clear HC0
            have HC0 := CC _ K
            refine hK1 (Act.put _ (some 80) _) _ ⟨fun _ => HC0, ?_⟩
            clear hK1 K1 hb
            try simp only [Act.put, setIfInBounds_toArray, set_cons_zero, set_cons_succ]
            refine wpHl.tk0 (i := 36) (d := some 81) (v := .bool true) rfl HS (by as_aux_lemma => kernel_rfl) rfl (fun _ _ _ h => h) (Or.inl ⟨by rfl, ?_⟩) HC0 ?_
            · intro u hC
              go_simp
            simp only [Act.put, setIfInBounds_toArray, set_cons_zero, set_cons_succ]
            refine wpHl.tk0 (i := 37) (d := some 82) (v := .bool true) rfl HS (by as_aux_lemma => kernel_rfl) rfl (fun _ _ _ h => h) (Or.inl ⟨by rfl, ?_⟩) HC0 ?_
            · intro u hC
              go_simp
            simp only [Act.put, setIfInBounds_toArray, set_cons_zero, set_cons_succ]
            refine wpHl.tk0 (i := 38) (d := some 83) (v := cm.V) rfl HS (by as_aux_lemma => kernel_rfl) rfl (fun _ _ _ h => h) (Or.inl ⟨by rfl, ?_⟩) HC0 ?_
            · intro u hC
              exact run_ldV rfl rfl hC.1
            simp only [Act.put, setIfInBounds_toArray, set_cons_zero, set_cons_succ]
            refine wpHl.one (i := 39) (by as_aux_lemma => kernel_rfl) rfl (fun K1 hK1 => ?_)
            rw [if_pos (by rfl)]
            refine wp_call_of (f := 26) (args := #[cm.V]) (by kernel_rfl) ?_
            with_reducible refine (HDP.out _ K).mono ?_
            rintro e wn ⟨rfl, hb⟩
            replace K := below_trans K hb
            clear HC0
            have HC0 := CC _ K
            refine hK1 (Act.put _ (some 84) _) _ ⟨fun _ => HC0, ?_⟩
            clear hK1 K1 hb
            try simp only [Act.put, setIfInBounds_toArray, set_cons_zero, set_cons_succ]
            refine wpHl.tk0 (i := 40) (d := some 85) (v := .bool true) rfl HS (by as_aux_lemma => kernel_rfl) rfl (fun _ _ _ h => h) (Or.inl ⟨by rfl, ?_⟩) HC0 ?_
            · intro u hC
              go_simp
            simp only [Act.put, setIfInBounds_toArray, set_cons_zero, set_cons_succ]
            refine wpHl.tk0 (i := 41) (d := some 86) (v := .bool true) rfl HS (by as_aux_lemma => kernel_rfl) rfl (fun _ _ _ h => h) (Or.inl ⟨by rfl, ?_⟩) HC0 ?_
            · intro u hC
              go_simp
            simp only [Act.put, setIfInBounds_toArray, set_cons_zero, set_cons_succ]
            refine wpHl.tk0 (i := 42) (d := some 87) (v := .bool true) rfl HS (by as_aux_lemma => kernel_rfl) rfl (fun _ _ _ h => h) (Or.inl ⟨by rfl, ?_⟩) HC0 ?_
            · intro u hC
              go_simp
            simp only [Act.put, setIfInBounds_toArray, set_cons_zero, set_cons_succ]
            refine wpHl.tk0 (i := 43) (d := some 88) (v := cm.V) rfl HS (by as_aux_lemma => kernel_rfl) rfl (fun _ _ _ h => h) (Or.inl ⟨by rfl, ?_⟩) HC0 ?_
            · intro u hC
              exact run_ldV rfl rfl hC.1
            simp only [Act.put, setIfInBounds_toArray, set_cons_zero, set_cons_succ]
            refine wpHl.one (i := 44) (by as_aux_lemma => kernel_rfl) rfl (fun K1 hK1 => ?_)
            rw [if_pos (by rfl)]
            refine wp_call_of (f := 25) (args := #[cm.V]) (by kernel_rfl) ?_
            with_reducible refine (HND.out _ K).mono ?_
            rintro e wn ⟨rfl, hb⟩
            replace K := below_trans K hb
            clear HC0
            have HC0 := CC _ K
            refine hK1 (Act.put _ (some 89) _) _ ⟨fun _ => HC0, ?_⟩
            clear hK1 K1 hb
            try simp only [Act.put, setIfInBounds_toArray, set_cons_zero, set_cons_succ]
            refine wpHl.tk0 (i := 45) (d := some 90) (v := .bool true) rfl HS (by as_aux_lemma => kernel_rfl) rfl (fun _ _ _ h => h) (Or.inl ⟨by rfl, ?_⟩) HC0 ?_
            · intro u hC
              go_simp
            simp only [Act.put, setIfInBounds_toArray, set_cons_zero, set_cons_succ]
            refine wpHl.tk0 (i := 46) (d := some 91) (v := .bool true) rfl HS (by as_aux_lemma => kernel_rfl) rfl (fun _ _ _ h => h) (Or.inl ⟨by rfl, ?_⟩) HC0 ?_
            · intro u hC
              go_simp
            simp only [Act.put, setIfInBounds_toArray, set_cons_zero, set_cons_succ]
            refine wpHl.tk0 (i := 47) (d := some 92) (v := .bool true) rfl HS (by as_aux_lemma => kernel_rfl) rfl (fun _ _ _ h => h) (Or.inl ⟨by rfl, ?_⟩) HC0 ?_
            · intro u hC
              go_simp
            simp only [Act.put, setIfInBounds_toArray, set_cons_zero, set_cons_succ]
            refine wpHl.one (i := 48) (by as_aux_lemma => kernel_rfl) rfl (fun K1 hK1 => ?_)
            rw [if_pos (by rfl)]
            refine wp_call_of (f := 37) (args := #[.string ⟨#[97]⟩]) (by kernel_rfl) ?_
            with_reducible refine (HT.out _ 97 ⟨#[97]⟩ rfl).mono ?_
            rintro e wn ⟨rfl, hb⟩
            replace K := below_trans K hb
            clear HC0
            have HC0 := CC _ K
            refine hK1 (Act.put _ (some 93) _) _ ⟨fun _ => HC0, ?_⟩
            clear hK1 K1 hb
            try simp only [Act.put, setIfInBounds_toArray, set_cons_zero, set_cons_succ]
            refine wpHl.one (i := 49) (by as_aux_lemma => kernel_rfl) rfl (fun K1 hK1 => ?_)
            rw [if_pos (by rfl)]
            refine wp_call_of (f := 37) (args := #[.string ⟨#[97, 98]⟩]) (by kernel_rfl) ?_
            with_reducible refine (HT2.out _).mono ?_
            rintro e wn ⟨rfl, hb⟩
            replace K := below_trans K hb
            clear HC0
            have HC0 := CC _ K
            refine hK1 (Act.put _ (some 94) _) _ ⟨fun _ => HC0, ?_⟩
            clear hK1 K1 hb
            try simp only [Act.put, setIfInBounds_toArray, set_cons_zero, set_cons_succ]
            refine wpHl.one (i := 50) (by as_aux_lemma => kernel_rfl) rfl (fun K1 hK1 => ?_)
            rw [if_pos (by rfl)]
            refine wp_call_of (f := 19) (args := #[(txC ⟨#[97]⟩).V, (txC ⟨#[97, 98]⟩).V]) (by kernel_rfl) ?_
            with_reducible refine (HCP.out _ K).mono ?_
            rintro e wn ⟨rfl, hb⟩
            replace K := below_trans K hb
            clear HC0
            have HC0 := CC _ K
            refine hK1 (Act.put _ (some 95) _) _ ⟨fun _ => HC0, ?_⟩
            clear hK1 K1 hb
            try simp only [Act.put, setIfInBounds_toArray, set_cons_zero, set_cons_succ]
            refine wpHl.tk0 (i := 51) (d := some 96) (v := .bool true) rfl HS (by as_aux_lemma => kernel_rfl) rfl (fun _ _ _ h => h) (Or.inl ⟨by rfl, ?_⟩) HC0 ?_
            · intro u hC
              go_simp
            simp only [Act.put, setIfInBounds_toArray, set_cons_zero, set_cons_succ]
            refine wpHl.tk0 (i := 52) (d := some 97) (v := .bool true) rfl HS (by as_aux_lemma => kernel_rfl) rfl (fun _ _ _ h => h) (Or.inl ⟨by rfl, ?_⟩) HC0 ?_
            · intro u hC
              go_simp
            simp only [Act.put, setIfInBounds_toArray, set_cons_zero, set_cons_succ]
            refine wpHl.tk0 (i := 53) (d := some 98) (v := .bool true) rfl HS (by as_aux_lemma => kernel_rfl) rfl (fun _ _ _ h => h) (Or.inl ⟨by rfl, ?_⟩) HC0 ?_
            · intro u hC
              go_simp
            simp only [Act.put, setIfInBounds_toArray, set_cons_zero, set_cons_succ]
            refine wpHl.tk0 (i := 54) (d := some 99) (v := cm.V) rfl HS (by as_aux_lemma => kernel_rfl) rfl (fun _ _ _ h => h) (Or.inl ⟨by rfl, ?_⟩) HC0 ?_
            · intro u hC
              exact run_ldV rfl rfl hC.1
            simp only [Act.put, setIfInBounds_toArray, set_cons_zero, set_cons_succ]
            refine wpHl.one (i := 55) (by as_aux_lemma => kernel_rfl) rfl (fun K1 hK1 => ?_)
            rw [if_pos (by rfl)]
            refine wp_call_of (f := 12) (args := #[cm.V]) (by kernel_rfl) ?_
            with_reducible refine (HCK.out _ K).mono ?_
            rintro e wn ⟨rfl, hb⟩
            replace K := below_trans K hb
            clear HC0
            have HC0 := CC _ K
            refine hK1 (Act.put _ (some 100) _) _ ⟨fun _ => HC0, ?_⟩
            clear hK1 K1 hb
            try simp only [Act.put, setIfInBounds_toArray, set_cons_zero, set_cons_succ]
            refine wpHl.one (i := 56) (by as_aux_lemma => kernel_rfl) rfl (fun K1 hK1 => ?_)
            rw [if_pos (by rfl)]
            refine wp_call_of (f := 16) (args := #[.nilIface]) (by kernel_rfl) ?_
            with_reducible refine (HCN.out _).mono ?_
            rintro e wn ⟨rfl, hb⟩
            replace K := below_trans K hb
            clear HC0
            have HC0 := CC _ K
            refine hK1 (Act.put _ (some 101) _) _ ⟨fun _ => HC0, ?_⟩
            clear hK1 K1 hb
            try simp only [Act.put, setIfInBounds_toArray, set_cons_zero, set_cons_succ]
            refine wpHl.tk0 (i := 57) (d := some 102) (v := .bool true) rfl HS (by as_aux_lemma => kernel_rfl) rfl (fun _ _ _ h => h) (Or.inl ⟨by rfl, ?_⟩) HC0 ?_
            · intro u hC
              go_simp
            simp only [Act.put, setIfInBounds_toArray, set_cons_zero, set_cons_succ]
            refine wpHl.tk0 (i := 58) (d := some 103) (v := .bool true) rfl HS (by as_aux_lemma => kernel_rfl) rfl (fun _ _ _ h => h) (Or.inl ⟨by rfl, ?_⟩) HC0 ?_
            · intro u hC
              go_simp
            simp only [Act.put, setIfInBounds_toArray, set_cons_zero, set_cons_succ]
            refine wpHl.tk0 (i := 59) (d := some 0) (v := .bool true) rfl HS (by as_aux_lemma => kernel_rfl) rfl (fun _ _ _ h => h) (Or.inl ⟨by rfl, ?_⟩) HC0 ?_
            · intro u hC
              go_simp
            simp only [Act.put, setIfInBounds_toArray, set_cons_zero, set_cons_succ]
            refine wpHl.done (by as_aux_lemma => kernel_rfl) ?_ _
            clear CC HC0 HS
            go_wp2
            go_ret
            exact ⟨rfl, HB5.out.trans (K.mono HB5.out.size)⟩
end Go.Proofs.YticmlelalbaalaaGreatDoor
