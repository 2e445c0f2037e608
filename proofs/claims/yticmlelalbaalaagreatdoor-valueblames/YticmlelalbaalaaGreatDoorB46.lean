import Derived.Test.YticmlelalbaalaaGreatDoorB29
import Derived.Test.YticmlelalbaalaaGreatDoorB45
import Derived.Test.YticmlelalbaalaaGreatDoorB24
import Derived.Test.YticmlelalbaalaaGreatDoorB44
namespace Go.Proofs.YticmlelalbaalaaGreatDoor
open Go.RowKit Go.Shelf
set_option linter.unusedVariables false
set_option linter.unusedSimpArgs false
structure ChE (w : World) (ev : Nat → Value) : Prop where
  L : Lays w
  T : Brn w
  U : Uss w
  P : PtW w
  e0 : ∃ t o, ev 0 = .iface t (.pointer o)
  e2 : ∃ t o, ev 2 = .iface t (.pointer o)
  e4 : ∃ t o, ev 4 = .iface t (.pointer o)
  c0 : w.cell? ⟨0, 0, none⟩ = some (ev 0)
  c2 : w.cell? ⟨3, 0, none⟩ = some (ev 2)
  c4 : w.cell? ⟨1, 0, none⟩ = some (ev 4)
theorem cell_in {w : World} {p : Addr} {v : Value} (h : w.cell? p = some v) : p.block < w.heap.size := by
  unfold World.cell? at h
  rcases Nat.lt_or_ge p.block w.heap.size with h1 | h1
  · exact h1
  · rw [Array.getElem?_eq_none h1] at h; cases h
theorem ChE.below {w w' : World} {ev : Nat → Value} (h : ChE w ev) (hb : Below w.heap.size w w') : ChE w' ev :=
  ⟨h.L.below hb, h.T.below hb, h.U.below hb, h.P.below hb, h.e0, h.e2, h.e4, (hb.cell (cell_in h.c0)).trans h.c0, (hb.cell (cell_in h.c2)).trans h.c2, (hb.cell (cell_in h.c4)).trans h.c4⟩
theorem ChE.check {w : World} {ev : Nat → Value} (E : ChE w ev) {v : Value} {x : Va} (hv : VaRd w v x) (hp : vpts x ≤ 1048576) :
    Calls Tryz.prog 12 #[v] w fun e w' => (∃ u, e = .returned u ∧ ErW w.heap.size w' u ev (chkV x)) ∧ Below w.heap.size w w' := by
  obtain ⟨t0, o0, h0⟩ := E.e0
  obtain ⟨t4, o4, h4⟩ := E.e4
  exact check_any E.L E.T E.U E.P h0 h4 E.c0 E.c4 hv hp
def kaX (xs : List Va) (e : En) : Va := xs.getD (2 * e.2.2.toNat) default
def kbX (xs : List Va) (e : En) : Va := xs.getD (2 * e.2.2.toNat + 1) default
noncomputable def cmpX (xs : List Va) : En → En → Int := fun a b => vcmp (kaX xs a) (kaX xs b)
noncomputable def sorX (zs : List (Va × Value × Value)) : List En := srt (cmpX (zs.map Prod.fst)) 1 (ensK 0 (zs.map clQ))
def EnP (w : World) (xs : List Va) (e : En) : Prop := VaRd w e.1.V (kaX xs e) ∧ VaRd w e.2.1.V (kbX xs e) ∧ vpts (kaX xs e) ≤ 1048576 ∧ vpts (kbX xs e) ≤ 1048576
theorem ens_ok {w : World} {zs : List (Va × Value × Value)} (hg : ∀ q ∈ zs, GoodV w q) (hp : ∀ q ∈ zs, vpts q.1 ≤ 1048576) : ∀ e ∈ ensK 0 (zs.map clQ), EnP w (zs.map Prod.fst) e := by
  intro e he
  obtain ⟨i, hi, rfl⟩ := List.getElem_of_mem he
  obtain ⟨a, b, h1, h2, h3⟩ := ensK_at 0 (zs.map clQ) i hi
  rw [List.getElem?_map] at h1 h2
  obtain ⟨q1, q1', rfl⟩ := Option.map_eq_some_iff.1 h1
  obtain ⟨q2, q2', rfl⟩ := Option.map_eq_some_iff.1 h2
  have m1 := List.mem_of_getElem? q1'
  have m2 := List.mem_of_getElem? q2'
  have e1 : kaX (zs.map Prod.fst) (clQ q1, clQ q2, ((0 + i : Nat) : Int)) = q1.1 := by
    simp only [kaX, Nat.zero_add, Int.toNat_natCast, List.getD, List.getElem?_map, q1']
    rfl
  have e2 : kbX (zs.map Prod.fst) (clQ q1, clQ q2, ((0 + i : Nat) : Int)) = q2.1 := by
    simp only [kbX, Nat.zero_add, Int.toNat_natCast, List.getD, List.getElem?_map, q2']
    rfl
  rw [h3]
  exact ⟨e1 ▸ (hg q1 m1).rd, e2 ▸ (hg q2 m2).rd, e1 ▸ hp q1 m1, e2 ▸ hp q2 m2⟩
theorem own_enrd {W : World} {B n : Nat} {v : Value} {xs : List En} (h : W.ownsRow B 112 17 v n (flatE xs)) (hn : n = xs.length) : EnRd (fun _ => True) W v xs := by
  subst hn
  obtain ⟨po, pc, rfl, h1, h2⟩ := own_shape h
  refine ⟨po, pc, rfl, h1, h2, fun h0 => ?_⟩
  obtain ⟨po', pc', e, hx⟩ := own_shp h
  cases e
  obtain ⟨g, rfl⟩ := hx h0
  have hr := own_range h
  refine ⟨g, 0, rfl, trivial, (own_in h (k := g) rfl).2, fun i hi j u hu => ?_⟩
  have hj : j < 17 := (List.getElem?_eq_some_iff.1 hu).1
  have := flatE_get xs i hi j hj
  rw [hu] at this
  have := hr (i * 17 + j) u this
  rw [← this]
  congr 2
  omega
theorem bykey_is {w : World} {xs : List Va} (L : Lays w) : CmpIsE (fun W => Below w.heap.size w W) (.func (.func 75) #[] #[]) (EnP w xs) (cmpX xs) :=
  ⟨_, _, rfl, enters_of Tryz.func75 (by kernel_rfl) rfl, fun W a b hb ha hb' => bykey_any (L.below hb) (ha.1.far hb) (hb'.1.far hb) ha.2.2.1 hb'.2.2.1⟩
theorem VaOw.same {w w' : World} {B b : Nat} {v : Value} {x : Va} (h : VaOw B w v x) (hb : b < B) (hs : ∀ j, j ≠ b → w'.heap[j]? = w.heap[j]?) : VaOw B w' v x := by
  obtain ⟨⟨vm, vk, h1, h2, h3⟩, h4⟩ := h
  exact ⟨⟨vm, vk, h1, own_same h2 hb hs, h3.same hb hs⟩, h4⟩
theorem OwnEn.below {B : Nat} {w w' : World} {v : Value} {xs : List En} (h : OwnEn B w v xs) (hb : Below w.heap.size w w') : OwnEn B w' v xs := by
  rcases h with h | ⟨g, e, h1, h2, h3⟩
  · exact .inl h
  · exact .inr ⟨g, e, h1, h2.keep (hb.block g h2.lt), h3⟩
def FlA (w : World) (g : Nat) (e : Value) (at_ : Int) : Prop := w.heap[g]? = some (.cells #[e, .int .i64 at_, .string ⟨#[]⟩] 65 (0, 0))
theorem wpHl.two {P : Program} {md : Region.Mode} {ops : Array Oper} {Q : Exit → Act → World → Prop} {C : World → Prop} {D : Nat → Bool} {i j : Nat} {fuel : Nat} {listed : Array Bool} {a : Act} {w : World} {o o' : Oper} (hr : Region.ready md ops listed = [i, j]) (ho : ops[i]? = some o) (ho' : ops[j]? = some o')
    (h : ∀ K : Act → World → Prop, (∀ a' w', (D i = false → C w') ∧ wpHl P md ops Q C D fuel (listed.setIfInBounds i true) a' w' → K a' w') → if Region.wanted o (yielded ops a.tmps) = true then Oper.wp P o a w K Q else K (a.put o.dst undef) w)
    (h' : ∀ K : Act → World → Prop, (∀ a' w', (D j = false → C w') ∧ wpHl P md ops Q C D fuel (listed.setIfInBounds j true) a' w' → K a' w') → if Region.wanted o' (yielded ops a.tmps) = true then Oper.wp P o' a w K Q else K (a.put o'.dst undef) w) :
    wpHl P md ops Q C D (fuel + 1) listed a w :=
  ⟨fun h0 => (by rw [hr] at h0; cases h0), fun k hk => by
    rw [hr, List.mem_cons, List.mem_singleton] at hk
    rcases hk with rfl | rfl
    · exact wpOp_step ho h
    · exact wpOp_step ho' h'⟩
theorem put8_size {W : World} {b o : Nat} {v0 v1 v2 v3 v4 v5 v6 v7 : Value} : (put8 W b o v0 v1 v2 v3 v4 v5 v6 v7).heap.size = W.heap.size := by simp [put8, World.setCell]
theorem put8_row {W : World} {b : Nat} {t : TypeId} {a0 a1 a2 a3 a4 a5 a6 a7 : Value} (h : W.heap[b]? = some (.cells #[a0, a1, a2, a3, a4, a5, a6, a7] t (0, 0))) (k n : Int) (g : Bool) (vm : Value) (bi e : Int) (tx : ByteArray) (vk : Value) :
    (put8 W b 0 (.int .i8 k) (.int .u64 n) (.bool g) vm (.int .u64 bi) (.int .i8 e) (.string tx) vk).heap[b]? = some (.cells #[.int .i8 k, .int .u64 n, .bool g, vm, .int .u64 bi, .int .i8 e, .string tx, vk] t (0, 0)) := by
  have k0 := heap_setCell_same W b 0 _ _ (.int .i8 k) h
  have k1 := heap_setCell_same _ b 1 _ _ (.int .u64 n) k0
  have k2 := heap_setCell_same _ b 2 _ _ (.bool g) k1
  have k3 := heap_setCell_same _ b 3 _ _ vm k2
  have k4 := heap_setCell_same _ b 4 _ _ (.int .u64 bi) k3
  have k5 := heap_setCell_same _ b 5 _ _ (.int .i8 e) k4
  have k6 := heap_setCell_same _ b 6 _ _ (.string tx) k5
  have k7 := heap_setCell_same _ b 7 _ _ vk k6
  simp only [List.setIfInBounds_toArray, List.set_cons_zero, List.set_cons_succ] at k7
  unfold put8
  exact k7
def MapR (B : Nat) (w' : World) (ev : Nat → Value) (zs : List (Va × Value × Value)) (u : Value) : Prop :=
  (0 ≤ repG (cmpX (zs.map Prod.fst)) (sorX zs) 1 (-1) ∧ ∃ g, B ≤ g ∧ u = .tuple #[.agg #[.int .i8 0, .int .u64 0, .bool false, .slice none 0 0, .int .u64 0, .int .i8 0, .string ⟨#[]⟩, .slice none 0 0], .iface 62 (.pointer (some ⟨g, 0, none⟩))] ∧ FlA w' g (ev 2) (repG (cmpX (zs.map Prod.fst)) (sorX zs) 1 (-1))) ∨
  (repG (cmpX (zs.map Prod.fst)) (sorX zs) 1 (-1) < 0 ∧ (zs.any fun q => vdep q.1 == 128) = true ∧ u = .tuple #[.agg #[.int .i8 0, .int .u64 0, .bool false, .slice none 0 0, .int .u64 0, .int .i8 0, .string ⟨#[]⟩, .slice none 0 0], ev 4]) ∨
  (repG (cmpX (zs.map Prod.fst)) (sorX zs) 1 (-1) < 0 ∧ (zs.any fun q => vdep q.1 == 128) = false ∧ ∃ u', u = .tuple #[u', .nilIface] ∧ VaOw B w' u' (mpV ((sorX zs).flatMap fun e => [kaX (zs.map Prod.fst) e, kbX (zs.map Prod.fst) e])))
theorem wpList_stV {ops : Array Oper} {rest : List Oper} {o : Oper} {a : Act} {w : World} {Q : Exit → Act → World → Prop} (hgd : o.guard = none) (y z : Operand) (ho : o.op = .store 31 y z)
    (b f : Nat) (hy : a.eval y = .pointer (some ⟨b, f, none⟩)) (x : Cl) (hz : a.eval z = x.V) (hx : w.there b f 8) (h : wpList Tryz.prog ops Q rest (a.put o.dst undef) (w.setCells b f x.L)) : wpList Tryz.prog ops Q (o :: rest) a w :=
  wpList_store_mid hgd _ y z ho b f x.L.toArray hy hz hx (by rw [va8Info]; rfl) (all_oneCell_toArray (fun u hu => by
    simp only [Cl.L, List.mem_cons, List.not_mem_nil, or_false] at hu
    rcases hu with rfl | rfl | rfl | rfl | rfl | rfl | rfl | rfl <;> rfl)) h
set_option maxHeartbeats 16000000 in
set_option maxRecDepth 100000 in
theorem map_good {w : World} {ev : Nat → Value} (E : ChE w ev) {v : Value} {zs : List (Va × Value × Value)} (h : ClGd w v zs) (hl : zs.length ≤ 1048576) (he : zs.length % 2 = 0) (hp : ∀ q ∈ zs, vpts q.1 ≤ 1048576) (hc : ∀ q ∈ zs, chkV q.1 = none) :
    Calls Tryz.prog 36 #[v] w fun e w' => (∃ u, e = .returned u ∧ MapR w.heap.size w' ev zs u) ∧ Below w.heap.size w w' := by
  have HH := hide h
  obtain ⟨⟨ao, cap, rfl, hx⟩, hg⟩ := h
  obtain ⟨n, hn⟩ : ∃ n, zs.length = n := ⟨_, rfl⟩
  rw [List.length_map] at hx HH
  rw [hn] at hl hx he HH
  rw [List.length_map, hn]
  have HX : Hid (0 < n → ∃ b o, ao = some ⟨b, o, none⟩ ∧ b < w.heap.size ∧ ∀ i q, zs[i]? = some q → w.rangeAt b (o + i * 8) (clQ q).L) := hide fun h0 => by
    obtain ⟨b, o, e, hb, hi⟩ := hx h0
    exact ⟨b, o, e, hb, fun i q hq => hi i _ (by rw [List.getElem?_map, hq]; rfl)⟩
  have HE := hide E
  have HG := hide hg
  have HN := hide hn
  have HP := hide hp
  have HC := hide hc
  have HEV := hide he
  have q0 : (n : Int) % 2 = 0 := by omega
  clear hx hg hn hp hc E he
  obtain ⟨W1, hW1⟩ : ∃ W1, w.alloc (.cells #[.int .i8 0, .int .u64 0, .bool false, .slice none 0 0, .int .u64 0, .int .i8 0, .string ⟨#[]⟩, .slice none 0 0] 31) = W1 := ⟨_, rfl⟩
  have HS1 := hide (show W1.heap.size = w.heap.size + 1 by rw [← hW1]; simp)
  have K1 := hide (show Below w.heap.size w W1 by rw [← hW1]; exact (Below.refl _ _).alloc (Nat.le_refl _) _)
  have HR1 := hide (show W1.heap[w.heap.size]? = some (.cells #[.int .i8 0, .int .u64 0, .bool false, .slice none 0 0, .int .u64 0, .int .i8 0, .string ⟨#[]⟩, .slice none 0 0] 31 (0, 0)) by rw [← hW1]; exact heap_alloc_new _ _)
  go_enter Tryz.func36, Tryz.ntmps36
  go_upto_region 1 with fail
  try rw [hW1]
  clear hW1
  go_wp2
  clear q0
  go_loopw [22] (fun i wr => ∃ (j : Nat), i = .int .i64 (j : Int) ∧ j ≤ n ∧ Hid (Below W1.heap.size W1 wr)) (fun i _ => n - (intOf i).toNat)
  case atStart => exact ⟨0, rfl, Nat.zero_le _, hide (Below.refl _ _)⟩
  case round =>
    obtain ⟨j, rfl, hj, KB⟩ := hrel
    by_cases hjn : j < n
    · have q1 : (j : Int) < (n : Int) := by omega
      have q2 : (0 : Int) ≤ (j : Int) := by omega
      obtain ⟨b, off, rfl, hbl, hcc⟩ := HX.out (by omega)
      obtain ⟨q, hq⟩ : ∃ q, zs[j]'(by rw [HN.out]; exact hjn) = q := ⟨_, rfl⟩
      have hqm : q ∈ zs := hq ▸ List.getElem_mem _
      have KW := hide (K1.out.trans (KB.out.mono K1.out.size))
      have HQ := hide (range_blk (hcc j q (by rw [← hq]; exact List.getElem?_eq_getElem _)) (KW.out.block b hbl))
      have HTH := hide (there_new wr 31 #[.int .i8 0, .int .u64 0, .bool false, .slice none 0 0, .int .u64 0, .int .i8 0, .string ⟨#[]⟩, .slice none 0 0] (n := 8) (by decide))
      obtain ⟨W8, hW8⟩ : ∃ W8, (wr.alloc (.cells #[.int .i8 0, .int .u64 0, .bool false, .slice none 0 0, .int .u64 0, .int .i8 0, .string ⟨#[]⟩, .slice none 0 0] 31)).setCells wr.heap.size 0 (clQ q).L = W8 := ⟨_, rfl⟩
      have HRG := hide (show W8.rangeAt wr.heap.size 0 (clQ q).L by rw [← hW8]; exact World.rangeAt_setCells_same _ _ _ _ HTH.out)
      have KB8 := hide (show Below wr.heap.size wr W8 by rw [← hW8]; exact below_cells ((Below.refl _ _).alloc (Nat.le_refl _) _) (Nat.le_refl _) _ _)
      have HCK := hide ((HE.out.below (KW.out.trans (KB8.out.mono KW.out.size))).check ((HG.out q hqm).rd.far (KW.out.trans (KB8.out.mono KW.out.size))) (HP.out q hqm))
      rw [HC.out q hqm] at HCK
      have HW8 := hide hW8
      clear hW8 hcc hq hqm
      go_upto_region 6 with (first | (refine wpList_ldV rfl _ rfl b (off + j * 8) rfl (clQ q) HQ.out ?_; try simp only [Act.put, List.setIfInBounds_toArray, List.set_cons_zero, List.set_cons_succ]) | (refine wpList_stV rfl _ _ rfl wr.heap.size 0 rfl (clQ q) rfl HTH.out ?_; rw [HW8.out]; try simp only [Act.put, List.setIfInBounds_toArray, List.set_cons_zero, List.set_cons_succ]))
      go_wp2_with (first | (refine wpList_ldV rfl _ rfl wr.heap.size 0 rfl (clQ q) HRG.out ?_; try simp only [Act.put, List.setIfInBounds_toArray, List.set_cons_zero, List.set_cons_succ]) | (go_at_call 12; (with_reducible refine HCK.out.mono ?_); rintro e w9 ⟨⟨u, rfl, hu⟩, hb⟩; obtain rfl : u = .nilIface := hu))
      have KZ := hide (KB.out.trans ((KB8.out.trans (hb.mono KB8.out.size)).mono KB.out.size))
      clear hb
      try go_wp2
      go_roundw
      case rel => exact ⟨j + 1, by simp, by omega, KZ⟩
      case measure => simp [intOf]; omega
    · have q1 : ¬ (j : Int) < (n : Int) := by omega
      obtain rfl : j = n := by omega
      have KW := hide (K1.out.trans (KB.out.mono K1.out.size))
      have HLE := hide (show (ensK 0 (zs.map clQ)).length = j / 2 by rw [ensK_len, List.length_map, HN.out])
      have HLS := hide (show (sorX zs).length = j / 2 by unfold sorX; rw [srt_len, HLE.out])
      have HENP := hide (fun (W : World) (hb : Below w.heap.size w W) => ens_ok (w := W) (zs := zs) (fun q hq => (HG.out q hq).far hb) HP.out)
      have HSRP := hide (fun (W : World) (hb : Below w.heap.size w W) x (hx : x ∈ sorX zs) => HENP.out W hb x (srt_mem _ _ _ x hx))
      have HEN := hide (entries_any (HH.out.rd.far KW.out (Nat.le_refl _)) (by rw [List.length_map, HN.out]; exact hl) (by rw [List.length_map, HN.out]; exact HEV.out))
      rw [show (zs.map clQ).length / 2 = j / 2 by rw [List.length_map, HN.out]] at HEN
      have HSO := hide (fun (W : World) (u : Value) (hb : Below w.heap.size w W) (hO : W.ownsRow wr.heap.size 112 17 u (j / 2) (flatE (ensK 0 (zs.map clQ)))) =>
        ensort_any (w := W) (by rw [HLE.out]; omega) (own_enrd hO HLE.out.symm) (bykey_is (w := W) (xs := zs.map Prod.fst) (HE.out.L.below hb)) (HENP.out W hb) (Below.refl _ _) (fun _ _ h1 h2 => h1.trans h2))
      have HRE := hide (fun (W : World) (u : Value) (B : Nat) (hb : Below w.heap.size w W) (hO : OwnEn B W u (sorX zs)) =>
        repeated_any (w := W) (Pd := EnP W (zs.map Prod.fst)) (f := cmpX (zs.map Prod.fst)) (hO.rd.mono (fun _ _ _ => trivial)) (by rw [HLS.out]; omega) (HSRP.out W hb) (fun W' a b hb' h1 h2 => bykey_any ((HE.out.L.below hb).below hb') (h1.1.far hb') (h2.1.far hb') h1.2.2.1 h2.2.2.1))
      have HDE := hide (fun (W : World) (hb : Below w.heap.size w W) => deepest_any (w := W) (v := .slice ao j cap) (zs := zs) ⟨HH.out.rd.far hb (Nat.le_refl _), fun q hq => (HG.out q hq).far hb⟩ (by rw [HN.out]; exact hl) HP.out)
      have HMO := hide (fun (W : World) (u : Value) (B : Nat) (hb : Below w.heap.size w W) (hO : OwnEn B W u (sorX zs)) =>
        mapof_any (w := W) (ka := kaX (zs.map Prod.fst)) (kb := kbX (zs.map Prod.fst)) (hO.rd.mono (fun _ _ _ => trivial)) (by rw [HLS.out]; omega) (fun x hx => HSRP.out W hb x hx))
      obtain ⟨S, hS⟩ : ∃ S, sorX zs = S := ⟨_, rfl⟩
      have hS' := hS
      unfold sorX at hS'
      rw [hS'] at HSO
      rw [hS] at HRE HMO
      obtain ⟨Y, hY⟩ : ∃ Y, mpV (S.flatMap fun e => [kaX (zs.map Prod.fst) e, kbX (zs.map Prod.fst) e]) = Y := ⟨_, rfl⟩
      rw [hY] at HMO
      have HZY := hide hY
      obtain ⟨r, hr⟩ : ∃ r, repG (cmpX (zs.map Prod.fst)) S 1 (-1) = r := ⟨_, rfl⟩
      obtain ⟨dp, hdp⟩ : ∃ d, (zs.any fun q => vdep q.1 == 128) = d := ⟨_, rfl⟩
      rw [hr] at HRE
      rw [hdp] at HDE
      have HZS := hide hS
      have HZR := hide hr
      have HZD := hide hdp
      clear hS hS' hr hdp hY
      by_cases h0 : 0 ≤ r
      · have d0 : decide (0 ≤ r) = true := by simpa using h0
        obtain ⟨t2, o2, e2⟩ := HE.out.e2
        have HG2 := hide (HE.out.c2)
        rw [e2] at HG2
        go_upto_region 13 with (first | (go_at_call 74; (with_reducible refine HEN.out.mono ?_); rintro e w2 ⟨⟨up, rfl, hO2⟩, hb2⟩; have hw2 := KW.out.trans (hb2.mono KW.out.size)) | (go_at_call 73; (with_reducible refine (HSO.out _ _ hw2 hO2).mono ?_); rintro e w3 ⟨⟨us, rfl, hO3⟩, hb3⟩; replace hb3 := hb2.trans (hb3.mono hb2.size); have hw3 := KW.out.trans (hb3.mono KW.out.size)) | (go_at_call 76; (with_reducible refine (HRE.out _ _ _ hw3 hO3).mono ?_); rintro e w4 ⟨rfl, hb4⟩; have hk4 := hb4; replace hb4 := hb3.trans (hb4.mono hb3.size); have hw4 := KW.out.trans (hb4.mono KW.out.size)) | (go_at_call 77; (with_reducible refine (HDE.out _ hw4).mono ?_); rintro e w5 ⟨rfl, hb5⟩; have hO5 := (hO3.below hk4).below hb5; replace hb5 := hb4.trans (hb5.mono hb4.size); have hw5 := KW.out.trans (hb5.mono KW.out.size)) | (go_at_call 79; (with_reducible refine (HMO.out _ _ _ hw5 hO5).mono ?_); rintro e w6 ⟨⟨um, rfl, hO6⟩, hb6⟩; have HO6 := hide hO6; obtain ⟨⟨vm6, vk6, rfl, lm6, lk6⟩, -⟩ := hO6; obtain ⟨a6, b6, rfl, -⟩ := own_shp lm6; obtain ⟨p6, q6, rfl⟩ := lk6.shp; have HB6 := hide (KB.out.trans ((hb5.trans (hb6.mono hb5.size)).mono KB.out.size)); have HR6 := hide ((HB6.out.block _ (by have := HS1.out; omega)).trans HR1.out); obtain ⟨c0, c1, c2, c3, c4, c5, c6, c7, f0, f1, f2, f3, f4, f5, f6, f7⟩ := cells8T HR6.out; unfold vaV))
        have HB4 := hide (KB.out.trans (hb4.mono KB.out.size))
        have HW4 := hide (K1.out.trans (HB4.out.mono K1.out.size))
        clear hb4
        have CC : ∀ u : World, Below w4.heap.size w4 u → u.cell? ⟨3, 0, none⟩ = some (.iface t2 (.pointer o2)) := fun u hu => ((HW4.out.trans (hu.mono HW4.out.size)).cell (cell_in HG2.out)).trans HG2.out
        have K : Below w4.heap.size w4 w4.drew := (Below.refl _ _).drew
        have HC0 := CC _ K
        refine wpHl.region0 (C := fun u => u.cell? ⟨3, 0, none⟩ = some (.iface t2 (.pointer o2))) (by kernel_rfl) (by kernel_rfl) (fun HS => ?_)
        obtain ⟨Wd, hWd⟩ : ∃ Wd, w4.drew = Wd := ⟨_, rfl⟩
        rw [hWd] at K HC0
        rw [hWd]
        refine wpHl.tk0 (i := 0) (d := some 44) (v := .agg #[.int .i8 0, .int .u64 0, .bool false, .slice none 0 0, .int .u64 0, .int .i8 0, .string ⟨#[]⟩, .slice none 0 0]) rfl HS (by as_aux_lemma => kernel_rfl) rfl (fun _ _ _ h => h) (Or.inl ⟨by rfl, ?_⟩) HC0 ?_
        · intro u hC
          go_simp
        try simp only [Act.put, List.setIfInBounds_toArray, List.set_cons_zero, List.set_cons_succ]
        refine wpHl.tk0 (i := 1) (d := some 45) (v := .iface t2 (.pointer o2)) rfl HS (by as_aux_lemma => kernel_rfl) rfl (fun _ _ _ h => h) (Or.inl ⟨by rfl, ?_⟩) HC0 ?_
        · intro u hC
          go_simp
        try simp only [Act.put, List.setIfInBounds_toArray, List.set_cons_zero, List.set_cons_succ]
        refine wpHl.tk0 (i := 2) (d := some 46) (v := .int .i64 r) rfl HS (by as_aux_lemma => kernel_rfl) rfl (fun _ _ _ h => h) (Or.inl ⟨by rfl, ?_⟩) HC0 ?_
        · intro u hC
          go_simp
        try simp only [Act.put, List.setIfInBounds_toArray, List.set_cons_zero, List.set_cons_succ]
        refine wpHl.tk0 (i := 3) (d := some 47) (v := .agg #[.iface t2 (.pointer o2), .int .i64 r, .string ⟨#[]⟩]) rfl HS (by as_aux_lemma => kernel_rfl) rfl (fun _ _ _ h => h) (Or.inl ⟨by rfl, ?_⟩) HC0 ?_
        · intro u hC
          go_simp
        try simp only [Act.put, List.setIfInBounds_toArray, List.set_cons_zero, List.set_cons_succ]
        clear HC0
        have hwd : Wd.heap.size = w4.heap.size := by rw [← hWd]; rfl
        have hne : Wd.heap.size ≠ w.heap.size := by have := HS1.out; have := HB4.out.size; omega
        have HBd := hide (HB4.out.trans (K.mono HB4.out.size))
        have HRd := hide ((HBd.out.block _ (by have := HS1.out; omega)).trans HR1.out)
        have HWd := hide (K1.out.trans (HBd.out.mono K1.out.size))
        have CC2 : ∀ u, Below w.heap.size w u → u.cell? ⟨3, 0, none⟩ = some (.iface t2 (.pointer o2)) := fun u hu => (hu.cell (cell_in HG2.out)).trans HG2.out
        clear CC
        refine wpHl.two (i := 4) (j := 6) (by as_aux_lemma => kernel_rfl) rfl rfl (fun KK hKK => ?_) (fun KK hKK => ?_)
        · skip
          have HB6 := HWd.out.alloc (HWd.out.size) (.cells #[.iface t2 (.pointer o2), .int .i64 r, .string ⟨#[]⟩] 65)
          have HCBX := CC2 _ HB6
          have HR6 := hide ((Below.heap_alloc Wd (.cells #[.iface t2 (.pointer o2), .int .i64 r, .string ⟨#[]⟩] 65) w.heap.size (by have := HWd.out.size; omega)).trans HRd.out)
          have HF6 := hide (heap_alloc_new Wd (.cells #[.iface t2 (.pointer o2), .int .i64 r, .string ⟨#[]⟩] 65))
          obtain ⟨W6, hW6⟩ : ∃ W6, Wd.alloc (.cells #[.iface t2 (.pointer o2), .int .i64 r, .string ⟨#[]⟩] 65) = W6 := ⟨_, rfl⟩
          rw [hW6] at HB6 HCBX HR6 HF6
          have HW6 := hide hW6
          clear hW6
          obtain ⟨c0, c1, c2, c3, c4, c5, c6, c7, f0, f1, f2, f3, f4, f5, f6, f7⟩ := cells8T HR6.out
          have HZ := hide (put8_row HR6.out 0 0 false (.slice none 0 0) 0 0 ⟨#[]⟩ (.slice none 0 0))
          have HFZ := hide ((put8_same (W := W6) (b := w.heap.size) (o := 0) (v0 := .int .i8 0) (v1 := .int .u64 0) (v2 := .bool false) (v3 := .slice none 0 0) (v4 := .int .u64 0) (v5 := .int .i8 0) (v6 := .string ⟨#[]⟩) (v7 := .slice none 0 0) hne).trans HF6.out)
          have HBZ := hide (put8_below (b := w.heap.size) (o := 0) (v0 := .int .i8 0) (v1 := .int .u64 0) (v2 := .bool false) (v3 := .slice none 0 0) (v4 := .int .u64 0) (v5 := .int .i8 0) (v6 := .string ⟨#[]⟩) (v7 := .slice none 0 0) HB6 (Nat.le_refl _))
          have HCST := CC2 _ HBZ.out
          unfold put8 at HZ HFZ HBZ HCST
          rw [if_pos (by rfl)]
          go_simp
          try rw [HW6.out]
          refine hKK _ _ ⟨fun _ => HCBX, ?_⟩
          clear hKK KK
          try simp only [Act.put, List.setIfInBounds_toArray, List.set_cons_zero, List.set_cons_succ]
          have HC0 := HCBX
          refine wpHl.tk0 (i := 5) (d := some 49) (v := .iface 62 (.pointer (some ⟨Wd.heap.size, 0, none⟩))) rfl HS (by as_aux_lemma => kernel_rfl) rfl (fun _ _ _ h => h) (Or.inl ⟨by rfl, ?_⟩) HC0 ?_
          · intro u hC
            go_simp
          try simp only [Act.put, List.setIfInBounds_toArray, List.set_cons_zero, List.set_cons_succ]
          refine wpHl.one (i := 6) (by as_aux_lemma => kernel_rfl) rfl (fun KK hKK => ?_)
          rw [if_pos (by rfl)]
          go_simp
          try rw [HW6.out]
          refine hKK _ _ ⟨fun _ => HCST, ?_⟩
          clear hKK KK
          try simp only [Act.put, List.setIfInBounds_toArray, List.set_cons_zero, List.set_cons_succ]
          have HC0 := HCST
          refine wpHl.tk0 (i := 7) (d := some 3) (v := .iface 62 (.pointer (some ⟨Wd.heap.size, 0, none⟩))) rfl HS (by as_aux_lemma => kernel_rfl) rfl (fun _ _ _ h => h) (Or.inl ⟨by rfl, ?_⟩) HC0 ?_
          · intro u hC
            go_simp
          try simp only [Act.put, List.setIfInBounds_toArray, List.set_cons_zero, List.set_cons_succ]
          refine wpHl.done (by as_aux_lemma => kernel_rfl) ?_ _
          clear c0 c1 c2 c3 c4 c5 c6 c7 f0 f1 f2 f3 f4 f5 f6 f7
          go_wp2
          obtain ⟨c0, c1, c2, c3, c4, c5, c6, c7, -⟩ := cells8T HZ.out
          refine bodyPost_ret (v := .tuple #[.agg #[.int .i8 0, .int .u64 0, .bool false, .slice none 0 0, .int .u64 0, .int .i8 0, .string ⟨#[]⟩, .slice none 0 0], .iface 62 (.pointer (some ⟨Wd.heap.size, 0, none⟩))]) ?_ rfl ?_
          · simp only [results, Tryz.results36]
            go_simp
          · refine ⟨⟨_, rfl, .inl ⟨?_, Wd.heap.size, Nat.le_trans HW4.out.size K.size, rfl, ?_⟩⟩, HBZ.out⟩
            · rw [HZS.out, HZR.out]; exact h0
            · rw [HZS.out, HZR.out, e2]; exact HFZ.out
        · skip
          obtain ⟨W6, hW6⟩ : ∃ W6, put8 Wd w.heap.size 0 (.int .i8 0) (.int .u64 0) (.bool false) (.slice none 0 0) (.int .u64 0) (.int .i8 0) (.string ⟨#[]⟩) (.slice none 0 0) = W6 := ⟨_, rfl⟩
          have HZ0 := hide (put8_row HRd.out 0 0 false (.slice none 0 0) 0 0 ⟨#[]⟩ (.slice none 0 0))
          have HB6 := put8_below (b := w.heap.size) (o := 0) (v0 := .int .i8 0) (v1 := .int .u64 0) (v2 := .bool false) (v3 := .slice none 0 0) (v4 := .int .u64 0) (v5 := .int .i8 0) (v6 := .string ⟨#[]⟩) (v7 := .slice none 0 0) HWd.out (Nat.le_refl _)
          have HCST := CC2 _ HB6
          have hs6 := put8_size (W := Wd) (b := w.heap.size) (o := 0) (v0 := .int .i8 0) (v1 := .int .u64 0) (v2 := .bool false) (v3 := .slice none 0 0) (v4 := .int .u64 0) (v5 := .int .i8 0) (v6 := .string ⟨#[]⟩) (v7 := .slice none 0 0)
          rw [hW6] at HZ0 HB6 HCST hs6
          unfold put8 at hW6
          have HW6 := hide hW6
          clear hW6
          obtain ⟨c0, c1, c2, c3, c4, c5, c6, c7, f0, f1, f2, f3, f4, f5, f6, f7⟩ := cells8T HRd.out
          rw [if_pos (by rfl)]
          go_simp
          try rw [HW6.out]
          refine hKK _ _ ⟨fun _ => HCST, ?_⟩
          clear hKK KK
          try simp only [Act.put, List.setIfInBounds_toArray, List.set_cons_zero, List.set_cons_succ]
          obtain ⟨W7, hW7⟩ : ∃ W7, W6.alloc (.cells #[.iface t2 (.pointer o2), .int .i64 r, .string ⟨#[]⟩] 65) = W7 := ⟨_, rfl⟩
          have HBZ := HB6.alloc HB6.size (.cells #[.iface t2 (.pointer o2), .int .i64 r, .string ⟨#[]⟩] 65)
          have HCBX := CC2 _ HBZ
          have HZ := hide ((Below.heap_alloc W6 (.cells #[.iface t2 (.pointer o2), .int .i64 r, .string ⟨#[]⟩] 65) w.heap.size (by have := HWd.out.size; omega)).trans HZ0.out)
          have HFZ := hide (heap_alloc_new W6 (.cells #[.iface t2 (.pointer o2), .int .i64 r, .string ⟨#[]⟩] 65))
          rw [hW7] at HBZ HCBX HZ HFZ
          replace HBZ := hide HBZ
          have HW7 := hide hW7
          clear hW7
          have HC0 := HCST
          refine wpHl.one (i := 4) (by as_aux_lemma => kernel_rfl) rfl (fun KK hKK => ?_)
          rw [if_pos (by rfl)]
          go_simp
          try rw [HW7.out]
          refine hKK _ _ ⟨fun _ => HCBX, ?_⟩
          clear hKK KK
          try simp only [Act.put, List.setIfInBounds_toArray, List.set_cons_zero, List.set_cons_succ]
          replace HC0 := HCBX
          refine wpHl.tk0 (i := 5) (d := some 49) (v := .iface 62 (.pointer (some ⟨W6.heap.size, 0, none⟩))) rfl HS (by as_aux_lemma => kernel_rfl) rfl (fun _ _ _ h => h) (Or.inl ⟨by rfl, ?_⟩) HC0 ?_
          · intro u hC
            go_simp
          try simp only [Act.put, List.setIfInBounds_toArray, List.set_cons_zero, List.set_cons_succ]
          refine wpHl.tk0 (i := 7) (d := some 3) (v := .iface 62 (.pointer (some ⟨W6.heap.size, 0, none⟩))) rfl HS (by as_aux_lemma => kernel_rfl) rfl (fun _ _ _ h => h) (Or.inl ⟨by rfl, ?_⟩) HC0 ?_
          · intro u hC
            go_simp
          try simp only [Act.put, List.setIfInBounds_toArray, List.set_cons_zero, List.set_cons_succ]
          refine wpHl.done (by as_aux_lemma => kernel_rfl) ?_ _
          clear c0 c1 c2 c3 c4 c5 c6 c7 f0 f1 f2 f3 f4 f5 f6 f7
          go_wp2
          obtain ⟨c0, c1, c2, c3, c4, c5, c6, c7, -⟩ := cells8T HZ.out
          refine bodyPost_ret (v := .tuple #[.agg #[.int .i8 0, .int .u64 0, .bool false, .slice none 0 0, .int .u64 0, .int .i8 0, .string ⟨#[]⟩, .slice none 0 0], .iface 62 (.pointer (some ⟨W6.heap.size, 0, none⟩))]) ?_ rfl ?_
          · simp only [results, Tryz.results36]
            go_simp
          · refine ⟨⟨_, rfl, .inl ⟨?_, W6.heap.size, HB6.size, rfl, ?_⟩⟩, HBZ.out⟩
            · rw [HZS.out, HZR.out]; exact h0
            · rw [HZS.out, HZR.out, e2]; exact HFZ.out
      · have d0 : decide (0 ≤ r) = false := by simpa using h0
        cases dp
        · have dF : True := trivial
          go_wp2_with (first | (go_at_call 74; (with_reducible refine HEN.out.mono ?_); rintro e w2 ⟨⟨up, rfl, hO2⟩, hb2⟩; have hw2 := KW.out.trans (hb2.mono KW.out.size)) | (go_at_call 73; (with_reducible refine (HSO.out _ _ hw2 hO2).mono ?_); rintro e w3 ⟨⟨us, rfl, hO3⟩, hb3⟩; replace hb3 := hb2.trans (hb3.mono hb2.size); have hw3 := KW.out.trans (hb3.mono KW.out.size)) | (go_at_call 76; (with_reducible refine (HRE.out _ _ _ hw3 hO3).mono ?_); rintro e w4 ⟨rfl, hb4⟩; have hk4 := hb4; replace hb4 := hb3.trans (hb4.mono hb3.size); have hw4 := KW.out.trans (hb4.mono KW.out.size)) | (go_at_call 77; (with_reducible refine (HDE.out _ hw4).mono ?_); rintro e w5 ⟨rfl, hb5⟩; have hO5 := (hO3.below hk4).below hb5; replace hb5 := hb4.trans (hb5.mono hb4.size); have hw5 := KW.out.trans (hb5.mono KW.out.size)) | (go_at_call 79; (with_reducible refine (HMO.out _ _ _ hw5 hO5).mono ?_); rintro e w6 ⟨⟨um, rfl, hO6⟩, hb6⟩; have HO6 := hide hO6; obtain ⟨⟨vm6, vk6, rfl, lm6, lk6⟩, -⟩ := hO6; obtain ⟨a6, b6, rfl, -⟩ := own_shp lm6; obtain ⟨p6, q6, rfl⟩ := lk6.shp; have HB6 := hide (KB.out.trans ((hb5.trans (hb6.mono hb5.size)).mono KB.out.size)); have HR6 := hide ((HB6.out.block _ (by have := HS1.out; omega)).trans HR1.out); obtain ⟨c0, c1, c2, c3, c4, c5, c6, c7, f0, f1, f2, f3, f4, f5, f6, f7⟩ := cells8T HR6.out; unfold vaV))
          clear c0 c1 c2 c3 c4 c5 c6 c7 f0 f1 f2 f3 f4 f5 f6 f7
          have HZ := hide (put8_row HR6.out Y.kind Y.n Y.neg (.slice a6 Y.mag.length b6) Y.bits Y.ext (strOfNums Y.text) (.slice p6 Y.kids.length q6))
          have HW6 := hide (VaOw.same (b := w.heap.size) HO6.out (by have := HS1.out; have := KB.out.size; have := hb5.size; omega) (fun k hk => put8_same (v0 := .int .i8 Y.kind) (v1 := .int .u64 Y.n) (v2 := .bool Y.neg) (v3 := (.slice a6 Y.mag.length b6)) (v4 := .int .u64 Y.bits) (v5 := .int .i8 Y.ext) (v6 := .string (strOfNums Y.text)) (v7 := (.slice p6 Y.kids.length q6)) (o := 0) hk))
          have HBZ := hide (put8_below (b := w.heap.size) (o := 0) (v0 := .int .i8 Y.kind) (v1 := .int .u64 Y.n) (v2 := .bool Y.neg) (v3 := (.slice a6 Y.mag.length b6)) (v4 := .int .u64 Y.bits) (v5 := .int .i8 Y.ext) (v6 := .string (strOfNums Y.text)) (v7 := (.slice p6 Y.kids.length q6)) (K1.out.trans (HB6.out.mono K1.out.size)) (Nat.le_refl _))
          unfold put8 at HZ HW6 HBZ
          obtain ⟨c0, c1, c2, c3, c4, c5, c6, c7, -⟩ := cells8T HZ.out
          refine bodyPost_ret (v := .tuple #[.agg #[.int .i8 Y.kind, .int .u64 Y.n, .bool Y.neg, .slice a6 Y.mag.length b6, .int .u64 Y.bits, .int .i8 Y.ext, .string (strOfNums Y.text), .slice p6 Y.kids.length q6], .nilIface]) ?_ rfl ?_
          · simp only [results, Tryz.results36]
            go_simp
          · refine ⟨⟨_, rfl, .inr (.inr ⟨?_, ?_, _, rfl, ?_⟩)⟩, HBZ.out⟩
            · rw [HZS.out, HZR.out]; omega
            · exact HZD.out
            · rw [HZS.out, HZY.out]; exact HW6.out.low (by have := HS1.out; have := KB.out.size; have := hb5.size; omega)
        · obtain ⟨t4, o4, e4⟩ := HE.out.e4
          have HG4 := hide (HE.out.c4)
          rw [e4] at HG4
          go_upto_region 15 with (first | (go_at_call 74; (with_reducible refine HEN.out.mono ?_); rintro e w2 ⟨⟨up, rfl, hO2⟩, hb2⟩; have hw2 := KW.out.trans (hb2.mono KW.out.size)) | (go_at_call 73; (with_reducible refine (HSO.out _ _ hw2 hO2).mono ?_); rintro e w3 ⟨⟨us, rfl, hO3⟩, hb3⟩; replace hb3 := hb2.trans (hb3.mono hb2.size); have hw3 := KW.out.trans (hb3.mono KW.out.size)) | (go_at_call 76; (with_reducible refine (HRE.out _ _ _ hw3 hO3).mono ?_); rintro e w4 ⟨rfl, hb4⟩; have hk4 := hb4; replace hb4 := hb3.trans (hb4.mono hb3.size); have hw4 := KW.out.trans (hb4.mono KW.out.size)) | (go_at_call 77; (with_reducible refine (HDE.out _ hw4).mono ?_); rintro e w5 ⟨rfl, hb5⟩; have hO5 := (hO3.below hk4).below hb5; replace hb5 := hb4.trans (hb5.mono hb4.size); have hw5 := KW.out.trans (hb5.mono KW.out.size)) | (go_at_call 79; (with_reducible refine (HMO.out _ _ _ hw5 hO5).mono ?_); rintro e w6 ⟨⟨um, rfl, hO6⟩, hb6⟩; have HO6 := hide hO6; obtain ⟨⟨vm6, vk6, rfl, lm6, lk6⟩, -⟩ := hO6; obtain ⟨a6, b6, rfl, -⟩ := own_shp lm6; obtain ⟨p6, q6, rfl⟩ := lk6.shp; have HB6 := hide (KB.out.trans ((hb5.trans (hb6.mono hb5.size)).mono KB.out.size)); have HR6 := hide ((HB6.out.block _ (by have := HS1.out; omega)).trans HR1.out); obtain ⟨c0, c1, c2, c3, c4, c5, c6, c7, f0, f1, f2, f3, f4, f5, f6, f7⟩ := cells8T HR6.out; unfold vaV))
          have HB4 := hide (KB.out.trans (hb5.mono KB.out.size))
          have HW4 := hide (K1.out.trans (HB4.out.mono K1.out.size))
          have CC : ∀ u : World, Below w5.heap.size w5 u → u.cell? ⟨1, 0, none⟩ = some (.iface t4 (.pointer o4)) := fun u hu => ((HW4.out.trans (hu.mono HW4.out.size)).cell (cell_in HG4.out)).trans HG4.out
          have K : Below w5.heap.size w5 w5.drew := (Below.refl _ _).drew
          have HC0 := CC _ K
          refine wpHl.region0 (C := fun u => u.cell? ⟨1, 0, none⟩ = some (.iface t4 (.pointer o4))) (by kernel_rfl) (by kernel_rfl) (fun HS => ?_)
          obtain ⟨Wd, hWd⟩ : ∃ Wd, w5.drew = Wd := ⟨_, rfl⟩
          rw [hWd] at K HC0
          rw [hWd]
          clear hWd
          refine wpHl.tk0 (i := 0) (d := some 52) (v := .agg #[.int .i8 0, .int .u64 0, .bool false, .slice none 0 0, .int .u64 0, .int .i8 0, .string ⟨#[]⟩, .slice none 0 0]) rfl HS (by as_aux_lemma => kernel_rfl) rfl (fun _ _ _ h => h) (Or.inl ⟨by rfl, ?_⟩) HC0 ?_
          · intro u hC
            go_simp
          try simp only [Act.put, List.setIfInBounds_toArray, List.set_cons_zero, List.set_cons_succ]
          refine wpHl.tk0 (i := 1) (d := some 53) (v := .iface t4 (.pointer o4)) rfl HS (by as_aux_lemma => kernel_rfl) rfl (fun _ _ _ h => h) (Or.inl ⟨by rfl, ?_⟩) HC0 ?_
          · intro u hC
            go_simp
          try simp only [Act.put, List.setIfInBounds_toArray, List.set_cons_zero, List.set_cons_succ]
          have HB6 := hide (HB4.out.trans (K.mono HB4.out.size))
          have HR6 := hide ((HB6.out.block _ (by have := HS1.out; omega)).trans HR1.out)
          obtain ⟨c0, c1, c2, c3, c4, c5, c6, c7, f0, f1, f2, f3, f4, f5, f6, f7⟩ := cells8T HR6.out
          have HZ := hide (put8_row HR6.out 0 0 false (.slice none 0 0) 0 0 ⟨#[]⟩ (.slice none 0 0))
          have HBZ := hide (put8_below (b := w.heap.size) (o := 0) (v0 := .int .i8 0) (v1 := .int .u64 0) (v2 := .bool false) (v3 := .slice none 0 0) (v4 := .int .u64 0) (v5 := .int .i8 0) (v6 := .string ⟨#[]⟩) (v7 := .slice none 0 0) (K1.out.trans (HB6.out.mono K1.out.size)) (Nat.le_refl _))
          have HCZ := (HBZ.out.cell (cell_in HG4.out)).trans HG4.out
          clear K CC HC0
          refine wpHl.one (i := 2) (by as_aux_lemma => kernel_rfl) rfl (fun KK hKK => ?_)
          rw [if_pos (by rfl)]
          unfold put8 at HZ HBZ HCZ
          go_simp
          refine hKK _ _ ⟨fun _ => HCZ, ?_⟩
          clear hKK KK
          try simp only [Act.put, List.setIfInBounds_toArray, List.set_cons_zero, List.set_cons_succ]
          have HC0 := HCZ
          refine wpHl.tk0 (i := 3) (d := some 3) (v := .iface t4 (.pointer o4)) rfl HS (by as_aux_lemma => kernel_rfl) rfl (fun _ _ _ h => h) (Or.inl ⟨by rfl, ?_⟩) HC0 ?_
          · intro u hC
            go_simp
          try simp only [Act.put, List.setIfInBounds_toArray, List.set_cons_zero, List.set_cons_succ]
          refine wpHl.done (by as_aux_lemma => kernel_rfl) ?_ _
          clear c0 c1 c2 c3 c4 c5 c6 c7 f0 f1 f2 f3 f4 f5 f6 f7
          go_wp2
          obtain ⟨c0, c1, c2, c3, c4, c5, c6, c7, -⟩ := cells8T HZ.out
          refine bodyPost_ret (v := .tuple #[.agg #[.int .i8 0, .int .u64 0, .bool false, .slice none 0 0, .int .u64 0, .int .i8 0, .string ⟨#[]⟩, .slice none 0 0], .iface t4 (.pointer o4)]) ?_ rfl ?_
          · simp only [results, Tryz.results36]
            go_simp
          · refine ⟨⟨_, rfl, .inr (.inl ⟨?_, HZD.out, ?_⟩)⟩, HBZ.out⟩
            · rw [HZS.out, HZR.out]; omega
            · rw [e4]
def txV (es : List Int) : Va := ⟨5, 0, false, [], 0, 0, es, []⟩
def whV (n : Int) : Va := ⟨3, 0, false, if n = 0 then [] else [n], 0, 0, [], []⟩
theorem put8_nil {w : World} {W1 : World} (hW : w.alloc (.cells #[.int .i8 0, .int .u64 0, .bool false, .slice none 0 0, .int .u64 0, .int .i8 0, .string ⟨#[]⟩, .slice none 0 0] 31) = W1) : W1.heap[w.heap.size]? = some (.cells #[.int .i8 0, .int .u64 0, .bool false, .slice none 0 0, .int .u64 0, .int .i8 0, .string ⟨#[]⟩, .slice none 0 0] 31 (0, 0)) := by rw [← hW]; exact heap_alloc_new _ _
set_option maxHeartbeats 4000000 in
set_option maxRecDepth 100000 in
theorem text14 {w : World} (s : ByteArray) : Calls Tryz.prog 37 #[.string s] w fun e w' => e = .returned (.agg #[.int .i8 5, .int .u64 0, .bool false, .slice none 0 0, .int .u64 0, .int .i8 0, .string s, .slice none 0 0]) ∧ Below w.heap.size w w' := by
  obtain ⟨W1, hW1⟩ : ∃ W1, w.alloc (.cells #[.int .i8 0, .int .u64 0, .bool false, .slice none 0 0, .int .u64 0, .int .i8 0, .string ⟨#[]⟩, .slice none 0 0] 31) = W1 := ⟨_, rfl⟩
  have K1 := hide (show Below w.heap.size w W1 by rw [← hW1]; exact (Below.refl _ _).alloc (Nat.le_refl _) _)
  have HR := hide (put8_nil hW1)
  have HZ := hide (put8_row HR.out 5 0 false (.slice none 0 0) 0 0 s (.slice none 0 0))
  have HB := hide (put8_below (b := w.heap.size) (o := 0) (v0 := .int .i8 5) (v1 := .int .u64 0) (v2 := .bool false) (v3 := .slice none 0 0) (v4 := .int .u64 0) (v5 := .int .i8 0) (v6 := .string s) (v7 := .slice none 0 0) K1.out (Nat.le_refl _))
  unfold put8 at HZ HB
  obtain ⟨c0, c1, c2, c3, c4, c5, c6, c7, f0, f1, f2, f3, f4, f5, f6, f7⟩ := cells8T HR.out
  go_enter Tryz.func37, Tryz.ntmps37
  go_upto_region 1 with fail
  try rw [hW1]
  clear hW1
  go_wp2
  clear c0 c1 c2 c3 c4 c5 c6 c7 f0 f1 f2 f3 f4 f5 f6 f7
  obtain ⟨c0, c1, c2, c3, c4, c5, c6, c7, -⟩ := cells8T HZ.out
  refine bodyPost_ret (v := .agg #[.int .i8 5, .int .u64 0, .bool false, .slice none 0 0, .int .u64 0, .int .i8 0, .string s, .slice none 0 0]) ?_ rfl ⟨rfl, HB.out⟩
  rw [results_cellT rfl]
  go_simp
theorem bsu_info : (Tryz.prog.info? 70).map (fun i => (i.zero, i.size, i.bytes)) = some (some (.int .u32 0), 1, 4) := by kernel_rfl
theorem wpList_bsU {ops : Array Oper} {rest : List Oper} {o : Oper} {a : Act} {w : World} {Q : Exit → Act → World → Prop} (hgd : o.guard = none) (y : Operand) (ho : o.op = .buildSlice 26 1 #[(0, y)]) (n : Int) (hy : a.eval y = .int .u32 n)
    (h : wpList Tryz.prog ops Q rest (a.put o.dst (.slice (some ⟨w.heap.size, 0, none⟩) 1 1)) (w.alloc (.cells #[.int .u32 n] 70))) : wpList Tryz.prog ops Q (o :: rest) a w := by
  obtain ⟨i0, hi, hz0, hz1, hz2⟩ := info_parts bsu_info
  refine wpList_buildSlice hgd 26 70 1 _ ho #[.int .u32 n] i0 _ Tryz.underlying26 hi hz0 (by rw [hz1]; decide) (by rw [hz1]; decide) ?_ h
  rw [hz1]
  simp only [List.map_toArray, List.map_cons, List.map_nil, hy]
  exact (Go.Great.fill_whole (s := 1) (by decide) [.int .u32 n] _ (fun v hv => by rw [List.mem_singleton.1 hv]; rfl) (by simp)).trans (by simp [Value.cells])
set_option maxHeartbeats 1000000 in
set_option maxRecDepth 100000 in
theorem whole14 {w : World} (n : Int) (h0 : 0 ≤ n) (h1 : n < 4294967296) : Calls Tryz.prog 38 #[.int .u32 n] w fun e w' => (∃ vm, e = .returned (vaV (whV n) vm (.slice none 0 0)) ∧ Reads .u32 w' vm (whV n).mag) ∧ Below w.heap.size w w' := by
  obtain ⟨W1, hW1⟩ : ∃ W1, w.alloc (.cells #[.int .i8 0, .int .u64 0, .bool false, .slice none 0 0, .int .u64 0, .int .i8 0, .string ⟨#[]⟩, .slice none 0 0] 31) = W1 := ⟨_, rfl⟩
  have K1 := hide (show Below w.heap.size w W1 by rw [← hW1]; exact (Below.refl _ _).alloc (Nat.le_refl _) _)
  have hs1 : w.heap.size < W1.heap.size := by rw [← hW1]; simp
  have HR := hide (put8_nil hW1)
  by_cases hn : n = 0
  · have q : decide (n = 0) = true := by simpa using hn
    have q' : (n == 0) = true := by simpa using hn
    subst hn
    have HZ := hide (put8_row HR.out 3 0 false (.slice none 0 0) 0 0 ⟨#[]⟩ (.slice none 0 0))
    have HB := hide (put8_below (b := w.heap.size) (o := 0) (v0 := .int .i8 3) (v1 := .int .u64 0) (v2 := .bool false) (v3 := .slice none 0 0) (v4 := .int .u64 0) (v5 := .int .i8 0) (v6 := .string ⟨#[]⟩) (v7 := .slice none 0 0) K1.out (Nat.le_refl _))
    unfold put8 at HZ HB
    obtain ⟨c0, c1, c2, c3, c4, c5, c6, c7, f0, f1, f2, f3, f4, f5, f6, f7⟩ := cells8T HR.out
    go_enter Tryz.func38, Tryz.ntmps38
    go_upto_region 1 with fail
    try rw [hW1]
    clear hW1
    go_wp2
    clear c0 c1 c2 c3 c4 c5 c6 c7 f0 f1 f2 f3 f4 f5 f6 f7
    obtain ⟨c0, c1, c2, c3, c4, c5, c6, c7, -⟩ := cells8T HZ.out
    refine bodyPost_ret (v := .agg #[.int .i8 3, .int .u64 0, .bool false, .slice none 0 0, .int .u64 0, .int .i8 0, .string ⟨#[]⟩, .slice none 0 0]) ?_ rfl ⟨⟨.slice none 0 0, rfl, ?_⟩, HB.out⟩
    · rw [results_cellT rfl]
      go_simp
    · exact LbOn.reads (B := 0) (World.ownsRow_nil _ _ _ _)
  · have q : decide (n = 0) = false := by simpa using hn
    have q' : (n == 0) = false := by simpa using hn
    obtain ⟨W2, hW2⟩ : ∃ W2, W1.alloc (.cells #[.int .u32 n] 70) = W2 := ⟨_, rfl⟩
    have K2 := hide (show Below w.heap.size w W2 by rw [← hW2]; exact K1.out.alloc K1.out.size _)
    have HRW := hide (show W2.heap[W1.heap.size]? = some (.cells #[.int .u32 n] 70 (0, 0)) by rw [← hW2]; exact heap_alloc_new _ _)
    have HR2 := hide (show W2.heap[w.heap.size]? = some (.cells #[.int .i8 0, .int .u64 0, .bool false, .slice none 0 0, .int .u64 0, .int .i8 0, .string ⟨#[]⟩, .slice none 0 0] 31 (0, 0)) by rw [← hW2]; exact (Below.heap_alloc _ _ _ hs1).trans HR.out)
    have HZ := hide (put8_row HR2.out 3 0 false (.slice (some ⟨W1.heap.size, 0, none⟩) 1 1) 0 0 ⟨#[]⟩ (.slice none 0 0))
    have HB := hide (put8_below (b := w.heap.size) (o := 0) (v0 := .int .i8 3) (v1 := .int .u64 0) (v2 := .bool false) (v3 := .slice (some ⟨W1.heap.size, 0, none⟩) 1 1) (v4 := .int .u64 0) (v5 := .int .i8 0) (v6 := .string ⟨#[]⟩) (v7 := .slice none 0 0) K2.out (Nat.le_refl _))
    have HM := hide ((put8_same (W := W2) (b := w.heap.size) (o := 0) (v0 := .int .i8 3) (v1 := .int .u64 0) (v2 := .bool false) (v3 := .slice (some ⟨W1.heap.size, 0, none⟩) 1 1) (v4 := .int .u64 0) (v5 := .int .i8 0) (v6 := .string ⟨#[]⟩) (v7 := .slice none 0 0) (show W1.heap.size ≠ w.heap.size by omega)).trans HRW.out)
    unfold put8 at HZ HB HM
    obtain ⟨c0, c1, c2, c3, c4, c5, c6, c7, f0, f1, f2, f3, f4, f5, f6, f7⟩ := cells8T HR2.out
    go_enter Tryz.func38, Tryz.ntmps38
    go_upto_region 1 with fail
    try rw [hW1]
    have HW2 := hide hW2
    clear hW1 hW2
    go_wp2_with (refine wpList_bsU rfl _ rfl n rfl ?_; rw [HW2.out]; try simp only [Act.put, List.setIfInBounds_toArray, List.set_cons_zero, List.set_cons_succ])
    clear c0 c1 c2 c3 c4 c5 c6 c7 f0 f1 f2 f3 f4 f5 f6 f7
    obtain ⟨c0, c1, c2, c3, c4, c5, c6, c7, -⟩ := cells8T HZ.out
    refine bodyPost_ret (v := .agg #[.int .i8 3, .int .u64 0, .bool false, .slice (some ⟨W1.heap.size, 0, none⟩) 1 1, .int .u64 0, .int .i8 0, .string ⟨#[]⟩, .slice none 0 0]) ?_ rfl ⟨⟨.slice (some ⟨W1.heap.size, 0, none⟩) 1 1, rfl, ?_⟩, HB.out⟩
    · rw [results_cellT rfl]
      go_simp
    · have hm := HM.out
      simp only [whV, Va.mag, if_neg hn]
      exact ⟨some ⟨W1.heap.size, 0, none⟩, 1, rfl, Nat.le_refl _, by unfold maxLen; omega, fun _ => ⟨W1.heap.size, 0, rfl, (Array.getElem?_eq_some_iff.1 hm).1, fun i hi => by
        have e : i = 0 := by simp at hi; omega
        subst e
        exact cell_of_row _ _ 0 _ _ _ hm⟩⟩
theorem chk_alo {x : Va} (h : chkV x = none) : aloB x = true := by
  unfold chkV at h
  rw [preV_eq] at h
  cases e : aloB x with
  | true => rfl
  | false => rw [List.find?_cons_of_pos (by simp [e])] at h; simp at h
theorem chk_even {x : Va} (h : chkV x = none) (hk : x.kind = 8) : x.kids.length % 2 = 0 := by
  have := chk_alo h
  simp only [aloB, fitB, Bool.and_eq_true] at this
  have h2 := this.2.2
  rw [hk] at h2
  simp at h2
  exact h2.1
set_option maxRecDepth 100000 in
theorem wpList_bdP {ops : Array Oper} {rest : List Oper} {o : Oper} {a : Act} {w : World} {Q : Exit → Act → World → Prop} (hgd : o.guard = none) (y : Operand) (ho : o.op = .build 110 #[(0, y)])
    (x : Cl) (hy : a.eval y = x.V) (h : wpList Tryz.prog ops Q rest (a.put o.dst (paV (x, cz))) w) : wpList Tryz.prog ops Q (o :: rest) a w := by
  have e : Tryz.prog.built 110 [(0, x.V)] = some (paL (x, cz)).toArray := by
    obtain ⟨a0, a1, a2, a3, a4, a5, a6, a7, a8, a9, a10, a11⟩ := x
    kernel_rfl
  refine wpList_build hgd _ _ ho ?_ ?_
  · simp only [List.map_toArray, List.map_cons, List.map_nil, hy, e]
    rfl
  · simp only [List.map_toArray, List.map_cons, List.map_nil, hy, e]
    exact h
noncomputable def fdF (m key : Va) : Nat → Int := fun i => vcmp (m.kids.getD (2 * i) default) key
noncomputable def fndB (m key : Va) : Option Nat :=
  if m.kind = 8 ∧ chkV m = none ∧ chkV key = none ∧ bsO (fdF m key) (m.kids.length / 2) (bsG (fdF m key) 0 (m.kids.length / 2)) = true then some (bsG (fdF m key) 0 (m.kids.length / 2)) else none
def FindR (B : Nat) (w' : World) (m : Va) (u : Value) : Option Nat → Prop
  | none => u = .tuple #[.agg #[.int .i8 0, .int .u64 0, .bool false, .slice none 0 0, .int .u64 0, .int .i8 0, .string ⟨#[]⟩, .slice none 0 0], .bool false]
  | some k => ∃ u', u = .tuple #[u', .bool true] ∧ VaOw B w' u' (m.kids.getD (2 * k + 1) default)
theorem put8_zero {W : World} {b : Nat} {t : TypeId} (h : W.heap[b]? = some (.cells #[.int .i8 0, .int .u64 0, .bool false, .slice none 0 0, .int .u64 0, .int .i8 0, .string ⟨#[]⟩, .slice none 0 0] t (0, 0))) : (put8 W b 0 (.int .i8 0) (.int .u64 0) (.bool false) (.slice none 0 0) (.int .u64 0) (.int .i8 0) (.string ⟨#[]⟩) (.slice none 0 0)).heap[b]? = some (.cells #[.int .i8 0, .int .u64 0, .bool false, .slice none 0 0, .int .u64 0, .int .i8 0, .string ⟨#[]⟩, .slice none 0 0] t (0, 0)) := put8_row h 0 0 false (.slice none 0 0) 0 0 ⟨#[]⟩ (.slice none 0 0)
set_option maxHeartbeats 16000000 in
set_option maxRecDepth 100000 in
theorem find_any {w : World} {ev : Nat → Value} (E : ChE w ev) {cm ck : Cl} {m key : Va} (hm : VaRd w cm.V m) (hk : VaRd w ck.V key) (pm : vpts m ≤ 1048576) (pk : vpts key ≤ 1048576) :
    Calls Tryz.prog 39 #[cm.V, ck.V] w fun e w' => (∃ u, e = .returned u ∧ FindR w.heap.size w' m u (fndB m key)) ∧ Below w.heap.size w w' := by
  obtain ⟨W1, hW1⟩ : ∃ W1, ((w.alloc (.cells cm.L.toArray 31)).alloc (.cells ck.L.toArray 31)).alloc (.cells #[.int .i8 0, .int .u64 0, .bool false, .slice none 0 0, .int .u64 0, .int .i8 0, .string ⟨#[]⟩, .slice none 0 0] 31) = W1 := ⟨_, rfl⟩
  have HS1 := hide (show W1.heap.size = w.heap.size + 3 by rw [← hW1]; simp)
  have K1 := hide (show Below w.heap.size w W1 by rw [← hW1]; exact (((Below.refl _ _).alloc (Nat.le_refl _) _).alloc (by simp) _).alloc (by simp; omega) _)
  have HM1 := hide (show W1.heap[w.heap.size]? = some (.cells #[.int .i8 cm.k, .int .u64 cm.n, .bool cm.g, .slice cm.mo cm.ml cm.mc, .int .u64 cm.b, .int .i8 cm.e, .string cm.t, .slice cm.ko cm.kl cm.kc] 31 (0, 0)) by
    rw [← hW1]
    exact (Below.heap_alloc _ _ _ (by simp; omega)).trans ((Below.heap_alloc _ _ _ (by simp)).trans (heap_alloc_new _ _)))
  have HK1 := hide (show W1.heap[w.heap.size + 1]? = some (.cells #[.int .i8 ck.k, .int .u64 ck.n, .bool ck.g, .slice ck.mo ck.ml ck.mc, .int .u64 ck.b, .int .i8 ck.e, .string ck.t, .slice ck.ko ck.kl ck.kc] 31 (0, 0)) by
    rw [← hW1]
    have e : w.heap.size + 1 = (w.alloc (.cells cm.L.toArray 31)).heap.size := by simp
    rw [e]
    exact (Below.heap_alloc _ _ _ (by simp)).trans (heap_alloc_new _ _))
  have HR1 := hide (show W1.heap[w.heap.size + 2]? = some (.cells #[.int .i8 0, .int .u64 0, .bool false, .slice none 0 0, .int .u64 0, .int .i8 0, .string ⟨#[]⟩, .slice none 0 0] 31 (0, 0)) by
    rw [← hW1]
    have e : w.heap.size + 2 = ((w.alloc (.cells cm.L.toArray 31)).alloc (.cells ck.L.toArray 31)).heap.size := by simp
    rw [e]
    exact heap_alloc_new _ _)
  have hkd : cm.k = m.kind := by
    obtain ⟨⟨vm, vk, e, -, -⟩, -⟩ := hm
    unfold Cl.V Cl.L vaV at e
    simp at e
    exact e.1
  have HCM := hide ((E.below K1.out).check (hm.far K1.out) pm)
  have HCK := hide (fun W (hb : Below w.heap.size w W) => (E.below hb).check (hk.far hb) pk)
  have HKD := hide hkd
  have HE := hide E
  have HM := hide hm
  have HK := hide hk
  unfold Cl.V Cl.L at HCM HCK
  clear hkd E hm hk
  go_enter Tryz.func39, Tryz.ntmps39
  unfold Cl.V
  go_upto_region 1 with fail
  try rw [hW1]
  clear hW1
  by_cases h8 : cm.k = 8
  · rw [h8] at HCM HM1
    obtain ⟨rm, hrm⟩ : ∃ r, chkV m = r := ⟨_, rfl⟩
    obtain ⟨rk, hrk⟩ : ∃ r, chkV key = r := ⟨_, rfl⟩
    rw [hrm] at HCM
    rw [hrk] at HCK
    have HRM := hide hrm
    have HRK := hide hrk
    clear hrm hrk
    obtain ⟨c0, c1, c2, c3, c4, c5, c6, c7, -⟩ := cells8T HM1.out
    obtain ⟨d0, d1, d2, d3, d4, d5, d6, d7, -⟩ := cells8T HK1.out
    clear d0 d1 d2 d3 d4 d5 d6 d7
    rcases rm with _ | ⟨i, p⟩
    · rcases rk with _ | ⟨i, p⟩
      · have HKS : Hid (VaSl w (.slice cm.ko cm.kl cm.kc) m.kids) := hide (by
          obtain ⟨⟨vm, vk, e, -, h⟩, -⟩ := HM.out
          unfold Cl.V Cl.L vaV at e
          simp at e
          rw [e.2.2.2.2.2.2.2]
          exact h)
        obtain ⟨zs, hz1, hz2, hz3⟩ := HKS.out.cl
        have pk2 : kpts m.kids ≤ 1048576 := by have := vpts_eq m; omega
        have hzl : zs.length = m.kids.length := by rw [← hz1, List.length_map]
        have hl0 : zs.length ≤ 1048576 := by rw [hzl]; exact Nat.le_trans (kpts_len _) pk2
        have hev : zs.length % 2 = 0 := by rw [hzl]; exact chk_even HRM.out (HKD.out ▸ h8)
        obtain ⟨n, hn⟩ : ∃ n, zs.length / 2 = n := ⟨_, rfl⟩
        have hn2 : zs.length = 2 * n := by omega
        have HPA := hide (fun W (hb : Below w.heap.size w W) => pairs_any (hz3.far hb (Nat.le_refl _)) (by rw [List.length_map]; exact hl0) (by rw [List.length_map]; exact hev))
        rw [List.length_map, hn] at HPA
        have HAT : Hid (∀ i, i < n → ∃ q1 q2, zs[2 * i]? = some q1 ∧ zs[2 * i + 1]? = some q2 ∧ m.kids.getD (2 * i) default = q1.1 ∧ m.kids.getD (2 * i + 1) default = q2.1 ∧ GoodV w q1 ∧ GoodV w q2 ∧ vpts q1.1 ≤ 1048576 ∧ vpts q2.1 ≤ 1048576) := hide fun i hi => by
          have h1 : 2 * i < zs.length := by omega
          have h2 : 2 * i + 1 < zs.length := by omega
          refine ⟨zs[2 * i], zs[2 * i + 1], List.getElem?_eq_getElem h1, List.getElem?_eq_getElem h2, ?_, ?_, hz2 _ (List.getElem_mem h1), hz2 _ (List.getElem_mem h2), ?_, ?_⟩
          · rw [← hz1]; simp [List.getD, h1]
          · rw [← hz1]; simp [List.getD, h2]
          · exact Nat.le_trans (kpts_mem (hz1 ▸ List.mem_map_of_mem (List.getElem_mem h1))) pk2
          · exact Nat.le_trans (kpts_mem (hz1 ▸ List.mem_map_of_mem (List.getElem_mem h2))) pk2
        have HSE := hide (fun W B uo uc (hb : Below w.heap.size w W) (hO : W.ownsRow B 110 16 (.slice uo n uc) n (clF (zs.map clQ))) =>
          pasearch_any (w := W) (po := uo) (n := n) (pc := uc) (cs := zs.map clQ) (x := (ck, cz)) (f := fdF m key) (fun i hi => by
            obtain ⟨q1, q2, e1, e2, f1, f2, g1, g2, p1, p2⟩ := HAT.out i hi
            obtain ⟨po', pc', e, h0⟩ := own_shp hO
            cases e
            obtain ⟨g, rfl⟩ := h0 (by omega)
            have hr := own_range hO
            have hA : (zs.map clQ)[2 * i]? = some (clQ q1) := by rw [List.getElem?_map, e1]; rfl
            have hB : (zs.map clQ)[2 * i + 1]? = some (clQ q2) := by rw [List.getElem?_map, e2]; rfl
            obtain ⟨l1, x1⟩ := List.getElem?_eq_some_iff.1 hA
            obtain ⟨l2, x2⟩ := List.getElem?_eq_some_iff.1 hB
            have r1 := clF_range hr (2 * i) l1
            have r2 := clF_range hr (2 * i + 1) l2
            rw [x1, show 0 + 2 * i * 8 = i * 16 by omega] at r1
            rw [x2, show 0 + (2 * i + 1) * 8 = i * 16 + 8 by omega] at r2
            refine ⟨g, clQ q1, clQ q2, rfl, (own_in hO (k := g) rfl).2, range_join r1 (Cl.L_len _) r2, fun W' hb' => ?_⟩
            have hbb := hb.trans (hb'.mono hb.size)
            have := pacmp_any (x2 := clQ q2) (y2 := cz) (HE.out.L.below hbb) (g1.rd.far hbb) (HK.out.far hbb) p1 pk
            simp only [fdF, f1]
            exact this) (by omega))
        have HFN := hide (show fndB m key = if bsO (fdF m key) n (bsG (fdF m key) 0 n) = true then some (bsG (fdF m key) 0 n) else none by
          unfold fndB
          rw [← hzl, hn]
          by_cases e : bsO (fdF m key) n (bsG (fdF m key) 0 n) = true
          · rw [if_pos ⟨HKD.out ▸ h8, HRM.out, HRK.out, e⟩, if_pos e]
          · rw [if_neg (fun h => e h.2.2.2), if_neg e])
        obtain ⟨k, hkk⟩ : ∃ k, bsG (fdF m key) 0 n = k := ⟨_, rfl⟩
        obtain ⟨ok, hok⟩ : ∃ b, bsO (fdF m key) n k = b := ⟨_, rfl⟩
        rw [hkk, hok] at HSE HFN
        have HOK := hide hok
        have HLN := hide hn2
        clear hkk hok hz1 hz2 hz3 hzl hl0 hev hn hn2 pk2
        cases ok
        · go_wp2_with (first | (go_at_call 12; (with_reducible refine HCM.out.mono ?_); rintro e w2 ⟨⟨u, rfl, hu⟩, hb2⟩; have K2 := hide hb2; clear hb2; obtain rfl : u = .nilIface := hu; clear c0 c1 c2 c3 c4 c5 c6 c7; obtain ⟨d0, d1, d2, d3, d4, d5, d6, d7, -⟩ := cells8T ((K2.out.block (w.heap.size + 1) (by have := HS1.out; omega)).trans HK1.out)) | (go_at_call 12; (with_reducible refine (HCK.out _ (K1.out.trans (K2.out.mono K1.out.size))).mono ?_); rintro e w3 ⟨⟨u, rfl, hu⟩, hb3⟩; have K3 := hide (K2.out.trans (hb3.mono K2.out.size)); clear hb3; obtain rfl : u = .nilIface := hu; clear d0 d1 d2 d3 d4 d5 d6 d7; obtain ⟨-, -, -, -, -, -, -, c7, -⟩ := cells8T ((K3.out.block w.heap.size (by have := HS1.out; omega)).trans HM1.out)) | (go_at_call 80; (with_reducible refine (HPA.out _ (K1.out.trans (K3.out.mono K1.out.size))).mono ?_); rintro e w4 ⟨⟨up, rfl, hO4⟩, hb4⟩; obtain ⟨uo, uc, rfl, hu0⟩ := own_shp hO4; have HO4 := hide hO4; have HU0 := hide hu0; have K4 := hide (K3.out.trans (hb4.mono K3.out.size)); clear c7 hb4 hO4 hu0; obtain ⟨d0, d1, d2, d3, d4, d5, d6, d7, -⟩ := cells8T ((K4.out.block (w.heap.size + 1) (by have := HS1.out; omega)).trans HK1.out)) | (refine wpList_bdP rfl _ rfl ck rfl ?_; try simp only [Act.put, List.setIfInBounds_toArray, List.set_cons_zero, List.set_cons_succ]) | (go_at_call 81; (with_reducible refine (HSE.out _ _ _ _ (K1.out.trans (K4.out.mono K1.out.size)) HO4.out).mono ?_); rintro e w5 ⟨rfl, hb5⟩; have HB5 := hide hb5; have K5 := hide (K4.out.trans (hb5.mono K4.out.size)); clear hb5 d0 d1 d2 d3 d4 d5 d6 d7; obtain ⟨e0, e1, e2, e3, e4, e5, e6, e7, z0, z1, z2, z3, z4, z5, z6, z7⟩ := cells8T ((K5.out.block (w.heap.size + 2) (by have := HS1.out; omega)).trans HR1.out)))
          have HR6 := hide (((K5.out.block _ (by have := HS1.out; omega))).trans HR1.out)
          have HK6 := hide (K1.out.trans (K5.out.mono K1.out.size))
          have HF := hide (HFN.out.trans (if_neg (by simp)))
          have HZ := hide (put8_zero HR6.out)
          have HBZ := hide (put8_below (b := w.heap.size + 2) (o := 0) (v0 := .int .i8 0) (v1 := .int .u64 0) (v2 := .bool false) (v3 := .slice none 0 0) (v4 := .int .u64 0) (v5 := .int .i8 0) (v6 := .string ⟨#[]⟩) (v7 := .slice none 0 0) HK6.out (by omega))
          unfold put8 at HZ HBZ
          try go_wp2
          clear e0 e1 e2 e3 e4 e5 e6 e7 z0 z1 z2 z3 z4 z5 z6 z7
          obtain ⟨e0, e1, e2, e3, e4, e5, e6, e7, -⟩ := cells8T HZ.out
          refine bodyPost_ret (v := .tuple #[.agg #[.int .i8 0, .int .u64 0, .bool false, .slice none 0 0, .int .u64 0, .int .i8 0, .string ⟨#[]⟩, .slice none 0 0], .bool false]) ?_ rfl ?_
          · simp only [results, Tryz.results39]
            go_simp
          · exact ⟨⟨_, rfl, by rw [HF.out]; rfl⟩, HBZ.out⟩
        · have hkn : k < n := by have := HOK.out; simp [bsO] at this; exact this.1
          obtain ⟨q1, q2, e1, e2, f1, f2, g1, g2, p1, p2⟩ := HAT.out k hkn
          have HF := hide (HFN.out.trans (if_pos rfl))
          have q3 : (k : Int) < (n : Int) := by omega
          have q4 : (0 : Int) ≤ (k : Int) := by omega
          have HCP := hide (fun W (hb : Below w.heap.size w W) => (copy_any p2).go (g2.rd.far hb))
          have HQ2 := hide (show (zs.map clQ)[2 * k + 1]? = some (clQ q2) by rw [List.getElem?_map, e2]; rfl)
          have HFQ := hide f2
          clear e1 e2 f1 f2 g1 g2 p1 p2
          obtain ⟨Y, hY⟩ : ∃ Y, q2.1 = Y := ⟨_, rfl⟩
          rw [hY] at HCP HFQ
          clear hY
          go_wp2_with (first | (go_at_call 12; (with_reducible refine HCM.out.mono ?_); rintro e w2 ⟨⟨u, rfl, hu⟩, hb2⟩; have K2 := hide hb2; clear hb2; obtain rfl : u = .nilIface := hu; clear c0 c1 c2 c3 c4 c5 c6 c7; obtain ⟨d0, d1, d2, d3, d4, d5, d6, d7, -⟩ := cells8T ((K2.out.block (w.heap.size + 1) (by have := HS1.out; omega)).trans HK1.out)) | (go_at_call 12; (with_reducible refine (HCK.out _ (K1.out.trans (K2.out.mono K1.out.size))).mono ?_); rintro e w3 ⟨⟨u, rfl, hu⟩, hb3⟩; have K3 := hide (K2.out.trans (hb3.mono K2.out.size)); clear hb3; obtain rfl : u = .nilIface := hu; clear d0 d1 d2 d3 d4 d5 d6 d7; obtain ⟨-, -, -, -, -, -, -, c7, -⟩ := cells8T ((K3.out.block w.heap.size (by have := HS1.out; omega)).trans HM1.out)) | (go_at_call 80; (with_reducible refine (HPA.out _ (K1.out.trans (K3.out.mono K1.out.size))).mono ?_); rintro e w4 ⟨⟨up, rfl, hO4⟩, hb4⟩; obtain ⟨uo, uc, rfl, hu0⟩ := own_shp hO4; obtain ⟨g, rfl⟩ := hu0 (by omega); have HO4 := hide hO4; have K4 := hide (K3.out.trans (hb4.mono K3.out.size)); clear c7 hb4 hO4 hu0; obtain ⟨d0, d1, d2, d3, d4, d5, d6, d7, -⟩ := cells8T ((K4.out.block (w.heap.size + 1) (by have := HS1.out; omega)).trans HK1.out)) | (refine wpList_bdP rfl _ rfl ck rfl ?_; try simp only [Act.put, List.setIfInBounds_toArray, List.set_cons_zero, List.set_cons_succ]) | (go_at_call 81; (with_reducible refine (HSE.out _ _ _ _ (K1.out.trans (K4.out.mono K1.out.size)) HO4.out).mono ?_); rintro e w5 ⟨rfl, hb5⟩; have HB5 := hide hb5; have K5 := hide (K4.out.trans (hb5.mono K4.out.size)); clear hb5 d0 d1 d2 d3 d4 d5 d6 d7; have HRQ := hide (show w5.rangeAt g (k * 16 + 8) (clQ q2).L by (obtain ⟨l2, x2⟩ := List.getElem?_eq_some_iff.1 HQ2.out; have r2 := clF_range (own_range HO4.out) (2 * k + 1) l2; rw [x2, show 0 + (2 * k + 1) * 8 = k * 16 + 8 by omega] at r2; exact range_blk r2 (HB5.out.block g (own_in HO4.out (k := g) rfl).2)))) | (refine wpList_ldV rfl _ rfl g (k * 16 + 8) rfl (clQ q2) HRQ.out ?_; try simp only [Act.put, List.setIfInBounds_toArray, List.set_cons_zero, List.set_cons_succ]) | (go_at_call 21; (with_reducible refine (HCP.out _ (K1.out.trans (K5.out.mono K1.out.size))).mono ?_); rintro e w6 ⟨⟨um, rfl, hO6⟩, hb6⟩; have HO6 := hide hO6; obtain ⟨⟨vm6, vk6, rfl, lm6, lk6⟩, -⟩ := hO6; obtain ⟨a6, b6, rfl, -⟩ := own_shp lm6; obtain ⟨p6, q6, rfl⟩ := lk6.shp; have K6 := hide (K5.out.trans (hb6.mono K5.out.size)); clear hb6 lm6 lk6; obtain ⟨e0, e1, e2, e3, e4, e5, e6, e7, z0, z1, z2, z3, z4, z5, z6, z7⟩ := cells8T ((K6.out.block (w.heap.size + 2) (by have := HS1.out; omega)).trans HR1.out); unfold vaV))
          clear e0 e1 e2 e3 e4 e5 e6 e7 z0 z1 z2 z3 z4 z5 z6 z7
          have HR6 := hide (((K6.out.block _ (by have := HS1.out; omega))).trans HR1.out)
          have HZ := hide (put8_row HR6.out Y.kind Y.n Y.neg (.slice a6 Y.mag.length b6) Y.bits Y.ext (strOfNums Y.text) (.slice p6 Y.kids.length q6))
          have HW6 := hide (VaOw.same (b := w.heap.size + 2) HO6.out (by have := HS1.out; have := K5.out.size; omega) (fun k hk => put8_same (v0 := .int .i8 Y.kind) (v1 := .int .u64 Y.n) (v2 := .bool Y.neg) (v3 := .slice a6 Y.mag.length b6) (v4 := .int .u64 Y.bits) (v5 := .int .i8 Y.ext) (v6 := .string (strOfNums Y.text)) (v7 := .slice p6 Y.kids.length q6) (o := 0) hk))
          have HBZ := hide (put8_below (b := w.heap.size + 2) (o := 0) (v0 := .int .i8 Y.kind) (v1 := .int .u64 Y.n) (v2 := .bool Y.neg) (v3 := .slice a6 Y.mag.length b6) (v4 := .int .u64 Y.bits) (v5 := .int .i8 Y.ext) (v6 := .string (strOfNums Y.text)) (v7 := .slice p6 Y.kids.length q6) (K1.out.trans (K6.out.mono K1.out.size)) (by omega))
          unfold put8 at HZ HW6 HBZ
          obtain ⟨e0, e1, e2, e3, e4, e5, e6, e7, -⟩ := cells8T HZ.out
          refine bodyPost_ret (v := .tuple #[.agg #[.int .i8 Y.kind, .int .u64 Y.n, .bool Y.neg, .slice a6 Y.mag.length b6, .int .u64 Y.bits, .int .i8 Y.ext, .string (strOfNums Y.text), .slice p6 Y.kids.length q6], .bool true]) ?_ rfl ?_
          · simp only [results, Tryz.results39]
            go_simp
          · refine ⟨⟨_, rfl, ?_⟩, HBZ.out⟩
            rw [HF.out]
            exact ⟨_, rfl, by rw [HFQ.out]; exact HW6.out.low (by have := HS1.out; have := K5.out.size; omega)⟩
      · go_wp2_with (first | (go_at_call 12; (with_reducible refine HCM.out.mono ?_); rintro e w2 ⟨⟨u, rfl, hu⟩, hb2⟩; have K2 := hide hb2; clear hb2; obtain rfl : u = .nilIface := hu; clear c0 c1 c2 c3 c4 c5 c6 c7; obtain ⟨d0, d1, d2, d3, d4, d5, d6, d7, -⟩ := cells8T ((K2.out.block (w.heap.size + 1) (by have := HS1.out; omega)).trans HK1.out)) | (go_at_call 12; (with_reducible refine (HCK.out _ (K1.out.trans (K2.out.mono K1.out.size))).mono ?_); rintro e w3 ⟨⟨u, rfl, hu⟩, hb3⟩; have K3 := hide (K2.out.trans (hb3.mono K2.out.size)); clear hb3; obtain ⟨g, -, rfl, -⟩ := hu; clear d0 d1 d2 d3 d4 d5 d6 d7; obtain ⟨e0, e1, e2, e3, e4, e5, e6, e7, z0, z1, z2, z3, z4, z5, z6, z7⟩ := cells8T ((K3.out.block (w.heap.size + 2) (by have := HS1.out; omega)).trans HR1.out)))
        have HR6 := hide (((K3.out.block _ (by have := HS1.out; omega))).trans HR1.out)
        have HK6 := hide (K1.out.trans (K3.out.mono K1.out.size))
        have HF := hide (show fndB m key = none by unfold fndB; rw [if_neg (fun h => by rw [HRK.out] at h; exact absurd h.2.2.1 (by simp))])
        have HZ := hide (put8_zero HR6.out)
        have HBZ := hide (put8_below (b := w.heap.size + 2) (o := 0) (v0 := .int .i8 0) (v1 := .int .u64 0) (v2 := .bool false) (v3 := .slice none 0 0) (v4 := .int .u64 0) (v5 := .int .i8 0) (v6 := .string ⟨#[]⟩) (v7 := .slice none 0 0) HK6.out (by omega))
        unfold put8 at HZ HBZ
        try go_wp2
        clear e0 e1 e2 e3 e4 e5 e6 e7 z0 z1 z2 z3 z4 z5 z6 z7
        obtain ⟨e0, e1, e2, e3, e4, e5, e6, e7, -⟩ := cells8T HZ.out
        refine bodyPost_ret (v := .tuple #[.agg #[.int .i8 0, .int .u64 0, .bool false, .slice none 0 0, .int .u64 0, .int .i8 0, .string ⟨#[]⟩, .slice none 0 0], .bool false]) ?_ rfl ?_
        · simp only [results, Tryz.results39]
          go_simp
        · exact ⟨⟨_, rfl, by rw [HF.out]; rfl⟩, HBZ.out⟩
    · go_wp2_with (first | (go_at_call 12; (with_reducible refine HCM.out.mono ?_); rintro e w2 ⟨⟨u, rfl, hu⟩, hb2⟩; have K2 := hide hb2; clear hb2; obtain ⟨g, -, rfl, -⟩ := hu; obtain ⟨e0, e1, e2, e3, e4, e5, e6, e7, z0, z1, z2, z3, z4, z5, z6, z7⟩ := cells8T ((K2.out.block (w.heap.size + 2) (by have := HS1.out; omega)).trans HR1.out)))
      have HR6 := hide (((K2.out.block _ (by have := HS1.out; omega))).trans HR1.out)
      have HK6 := hide (K1.out.trans (K2.out.mono K1.out.size))
      have HF := hide (show fndB m key = none by unfold fndB; rw [if_neg (fun h => by rw [HRM.out] at h; exact absurd h.2.1 (by simp))])
      have HZ := hide (put8_zero HR6.out)
      have HBZ := hide (put8_below (b := w.heap.size + 2) (o := 0) (v0 := .int .i8 0) (v1 := .int .u64 0) (v2 := .bool false) (v3 := .slice none 0 0) (v4 := .int .u64 0) (v5 := .int .i8 0) (v6 := .string ⟨#[]⟩) (v7 := .slice none 0 0) HK6.out (by omega))
      unfold put8 at HZ HBZ
      try go_wp2
      clear e0 e1 e2 e3 e4 e5 e6 e7 z0 z1 z2 z3 z4 z5 z6 z7
      obtain ⟨e0, e1, e2, e3, e4, e5, e6, e7, -⟩ := cells8T HZ.out
      refine bodyPost_ret (v := .tuple #[.agg #[.int .i8 0, .int .u64 0, .bool false, .slice none 0 0, .int .u64 0, .int .i8 0, .string ⟨#[]⟩, .slice none 0 0], .bool false]) ?_ rfl ?_
      · simp only [results, Tryz.results39]
        go_simp
      · exact ⟨⟨_, rfl, by rw [HF.out]; rfl⟩, HBZ.out⟩
  · have q8 : decide (cm.k = 8) = false := by simpa using h8
    have q8' : (cm.k == 8) = false := by simpa using h8
    obtain ⟨c0, c1, c2, c3, c4, c5, c6, c7, -⟩ := cells8T HM1.out
    obtain ⟨d0, d1, d2, d3, d4, d5, d6, d7, e0, e1, e2, e3, e4, e5, e6, e7⟩ := cells8T HR1.out
    have HF := hide (show fndB m key = none by unfold fndB; rw [if_neg (fun h => h8 (HKD.out.trans h.1))])
    have HZ := hide (put8_zero HR1.out)
    have HBZ := hide (put8_below (b := w.heap.size + 2) (o := 0) (v0 := .int .i8 0) (v1 := .int .u64 0) (v2 := .bool false) (v3 := .slice none 0 0) (v4 := .int .u64 0) (v5 := .int .i8 0) (v6 := .string ⟨#[]⟩) (v7 := .slice none 0 0) K1.out (by omega))
    unfold put8 at HZ HBZ
    go_wp2
    clear c0 c1 c2 c3 c4 c5 c6 c7 d0 d1 d2 d3 d4 d5 d6 d7 e0 e1 e2 e3 e4 e5 e6 e7
    obtain ⟨c0, c1, c2, c3, c4, c5, c6, c7, -⟩ := cells8T HZ.out
    refine bodyPost_ret (v := .tuple #[.agg #[.int .i8 0, .int .u64 0, .bool false, .slice none 0 0, .int .u64 0, .int .i8 0, .string ⟨#[]⟩, .slice none 0 0], .bool false]) ?_ rfl ?_
    · simp only [results, Tryz.results39]
      go_simp
    · exact ⟨⟨_, rfl, by rw [HF.out]; rfl⟩, HBZ.out⟩
theorem lv_em0 : (strOfNums []).toList.isEmpty = true := by
  unfold strOfNums ByteArray.toList
  rw [ByteArray.toList.loop]
  rfl
theorem lv_em1 (z : Int) (es : List Int) : (strOfNums (z :: es)).toList.isEmpty = false := by
  have hs : 0 < (strOfNums (z :: es)).size := by
    show 0 < ((z :: es).map _).toArray.size
    simp
  cases h : (strOfNums (z :: es)).toList with
  | cons a l => rfl
  | nil =>
    exfalso
    unfold ByteArray.toList at h
    rw [ByteArray.toList.loop, if_pos hs] at h
    have : ∀ (b : ByteArray) (i : Nat) (r : List UInt8), r ≠ [] → ByteArray.toList.loop b i r ≠ [] := by
      intro b i r
      fun_induction ByteArray.toList.loop b i r with
      | case1 i r h ih => intro _; exact ih (by simp)
      | case2 i r h => intro hr; simpa using hr
    exact this _ _ _ (by simp) h
theorem lv_tx (es : List Int) (h : uPts es) (h2 : uFlat es = es) : txB es = true := by
  unfold txB
  simp only [decide_eq_true_eq]
  exact ⟨es, h, by rw [h2]; simp, by decide⟩
theorem lv_alo_tx {es : List Int} (h : txB es = true) : aloB (txV es) = true := by
  have e : (bits .andNot .u8 (flV (txV es)) (usTab.getD 5 0 : Nat) == 0) = true := by
    unfold flV flr txV
    simp only [Va.n, Va.neg, Va.mag, Va.bits, Va.ext, Va.text, Va.kids]
    cases es with
    | nil => rw [lv_em0]; rfl
    | cons z es => rw [lv_em1]; show (bits .andNot .u8 (flB false false false false true false) 16 == 0) = true; decide
  unfold aloB
  rw [show (txV es).kind = 5 from rfl]
  rw [show (5 : Int).toNat = 5 from rfl, e]
  unfold fitB
  rw [show (txV es).kind = 5 from rfl, show (txV es).text = es from rfl, h]
  rfl
theorem lv_alo_wh {n : Int} (h0 : 0 ≤ n) (h1 : n < 3) : aloB (whV n) = true := by
  rcases (by omega : n = 0 ∨ n = 1 ∨ n = 2) with rfl | rfl | rfl <;>
  · unfold aloB flV flr fitB whV
    simp only [Va.n, Va.neg, Va.mag, Va.bits, Va.ext, Va.text, Va.kids, Va.kind, lv_em0]
    decide
theorem lv_cmp_tx (a b : Int) (h : a < b) : vcmp (txV [a]) (txV [b]) = -1 := by
  rw [vcmp_eq]
  have : tcmp [a] [b] = -1 := by simp [tcmp, sg3, lx, h]
  simp [hcmp, txV, Va.kind, Va.n, Va.ext, Va.bits, Va.text, Va.kids, vnum, Va.neg, Va.mag, sg3, lx, this]
theorem lv_chk_leaf {x : Va} (h : aloB x = true) (hk : x.kids = []) : chkV x = none := by
  unfold chkV
  rw [preV_eq, hk, preK]
  simp only [List.find?_cons, h, Bool.not_true, List.find?_nil, tooD, List.length_nil]
  simp
theorem lv_srt {α : Type} (f : α → α → Int) (a b : α) : srt f 1 [a, b] = if f b a < 0 then [b, a] else [a, b] := by
  rw [srt_step f (by simp) (by omega)]
  have e : runs f 1 [a, b] = if f b a < 0 then [b, a] else [a, b] := by
    rw [runs, dif_neg (by simp), runs, dif_pos (by simp)]
    simp [mrg]
  rw [srt_end f (by rw [e]; split <;> simp), e]
def m14 : Va := mpV [txV [97], whV 2, txV [98], whV 1]
theorem lv_dep_leaf {x : Va} (h : vcont x = false) : vdep x = 0 := by
  cases x
  rw [vdep]
  simp only [vcont, Va.kind] at h
  rw [h]
  rfl
theorem lv_four {zs : List (Va × Value × Value)} {a b c d : Va} (h : zs.map Prod.fst = [a, b, c, d]) : ∃ q0 q1 q2 q3, zs = [q0, q1, q2, q3] ∧ q0.1 = a ∧ q1.1 = b ∧ q2.1 = c ∧ q3.1 = d := by
  match zs, h with
  | [q0, q1, q2, q3], h => simp at h; exact ⟨q0, q1, q2, q3, rfl, h.1, h.2.1, h.2.2.1, h.2.2.2⟩
theorem lv_map1 {B : Nat} {w' : World} {ev : Nat → Value} {zs : List (Va × Value × Value)} {u : Value} (h : MapR B w' ev zs u) (hz : zs.map Prod.fst = [txV [98], whV 1, txV [97], whV 2]) : ∃ u', u = .tuple #[u', .nilIface] ∧ VaOw B w' u' m14 := by
  obtain ⟨q0, q1, q2, q3, rfl, h0, h1, h2, h3⟩ := lv_four hz
  have hf : cmpX [txV [98], whV 1, txV [97], whV 2] (clQ q2, clQ q3, 1) (clQ q0, clQ q1, 0) = -1 := lv_cmp_tx 97 98 (by omega)
  have hs : sorX [q0, q1, q2, q3] = [(clQ q2, clQ q3, 1), (clQ q0, clQ q1, 0)] := by
    unfold sorX
    rw [hz]
    show srt _ 1 [(clQ q0, clQ q1, 0), (clQ q2, clQ q3, 1)] = _
    rw [lv_srt, hf]
    rfl
  have hr : repG (cmpX [txV [98], whV 1, txV [97], whV 2]) [(clQ q2, clQ q3, 1), (clQ q0, clQ q1, 0)] 1 (-1) = -1 := by
    rw [repG_no (p := (clQ q2, clQ q3, 1)) (x := (clQ q0, clQ q1, 0)) (by simp) rfl rfl (by rw [hf]; simp), repG_end (by simp)]
  unfold MapR at h
  rw [hz, hs, hr] at h
  rcases h with ⟨h, _⟩ | ⟨_, h, _⟩ | ⟨_, _, u', hu, hv⟩
  · omega
  · simp only [List.any_cons, h0, h1, h2, h3, lv_dep_leaf (show vcont (txV [98]) = false from rfl), lv_dep_leaf (show vcont (txV [97]) = false from rfl), lv_dep_leaf (show vcont (whV 1) = false from rfl), lv_dep_leaf (show vcont (whV 2) = false from rfl)] at h
    simp at h
  · exact ⟨u', hu, hv⟩
theorem lv_map2 {B : Nat} {w' : World} {ev : Nat → Value} {zs : List (Va × Value × Value)} {u : Value} (h : MapR B w' ev zs u) (hz : zs.map Prod.fst = [whV 0, whV 1, whV 0, whV 2]) : ∃ g v0, B ≤ g ∧ u = .tuple #[.agg v0, .iface 62 (.pointer (some ⟨g, 0, none⟩))] ∧ v0.size = 8 ∧ FlA w' g (ev 2) 1 := by
  obtain ⟨q0, q1, q2, q3, rfl, h0, h1, h2, h3⟩ := lv_four hz
  have hc0 : vcmp (whV 0) (whV 0) = 0 := by
    rw [vcmp_eq]
    simp [hcmp, whV, Va.kind, Va.n, Va.ext, Va.bits, Va.text, Va.kids, vnum, Va.neg, Va.mag, sg3, lx, tcmp, kcmp]
  have hf : cmpX [whV 0, whV 1, whV 0, whV 2] (clQ q2, clQ q3, 1) (clQ q0, clQ q1, 0) = 0 := hc0
  have hf' : cmpX [whV 0, whV 1, whV 0, whV 2] (clQ q0, clQ q1, 0) (clQ q2, clQ q3, 1) = 0 := hc0
  have hs : sorX [q0, q1, q2, q3] = [(clQ q0, clQ q1, 0), (clQ q2, clQ q3, 1)] := by
    unfold sorX
    rw [hz]
    show srt _ 1 [(clQ q0, clQ q1, 0), (clQ q2, clQ q3, 1)] = _
    rw [lv_srt, hf]
    rfl
  have hr : repG (cmpX [whV 0, whV 1, whV 0, whV 2]) [(clQ q0, clQ q1, 0), (clQ q2, clQ q3, 1)] 1 (-1) = 1 := by
    rw [repG_yes (p := (clQ q0, clQ q1, 0)) (x := (clQ q2, clQ q3, 1)) (by simp) rfl rfl hf' (.inl (by omega)), repG_end (by simp)]
  unfold MapR at h
  rw [hz, hs, hr] at h
  rcases h with ⟨_, g, hg, hu, hv⟩ | ⟨h, _⟩ | ⟨h, _⟩
  · exact ⟨g, _, hg, hu, rfl, hv⟩
  · omega
  · omega
theorem lv_tx1 (z : Int) (h : uPt z = true) (h2 : uFlat [z] = [z]) : txB [z] = true := lv_tx [z] (fun p hp => by rw [List.mem_singleton.1 hp]; exact h) h2
theorem lv_a97 : aloB (txV [97]) = true := lv_alo_tx (lv_tx1 97 (by decide) (by decide))
theorem lv_a98 : aloB (txV [98]) = true := lv_alo_tx (lv_tx1 98 (by decide) (by decide))
theorem lv_am14 : aloB m14 = true := by
  have e : risK [txV [97], whV 2, txV [98], whV 1] = true := by
    rw [risK, lv_cmp_tx 97 98 (by omega)]
    rfl
  unfold aloB flV flr fitB
  rw [show m14.text = [] from rfl, lv_em0, show m14.kind = 8 from rfl, show m14.kids = [txV [97], whV 2, txV [98], whV 1] from rfl, e]
  show ((decide ((1 : Int) ≤ 8) && decide ((8 : Int) ≤ 11)) && ((bits .andNot .u8 (flB false false false false false true) 32 == 0) && true)) = true
  decide
theorem lv_pre_m14 : preV [] m14 = [([], m14), ([0], txV [97]), ([1], whV 2), ([2], txV [98]), ([3], whV 1)] := by
  rw [preV_eq, show m14.kids = [txV [97], whV 2, txV [98], whV 1] from rfl]
  simp [preK, preV_eq, txV, whV, Va.kids]
theorem lv_chk_m14 : chkV m14 = none := by
  unfold chkV
  rw [lv_pre_m14]
  simp only [List.find?_cons, lv_am14, lv_a97, lv_a98, lv_alo_wh (n := 2) (by omega) (by omega), lv_alo_wh (n := 1) (by omega) (by omega), Bool.not_true, List.find?_nil, tooD, List.length_nil, List.length_cons]
  simp
theorem lv_nod_m14 : vnod m14 = 5 := by
  have := preV_len _ m14 (Nat.le_refl _) []
  rw [lv_pre_m14] at this
  simpa using this.symm
theorem lv_dep_m14 : vdep m14 = 1 := by
  have d1 := lv_dep_leaf (show vcont (txV [98]) = false from rfl)
  have d2 := lv_dep_leaf (show vcont (txV [97]) = false from rfl)
  have d3 := lv_dep_leaf (show vcont (whV 1) = false from rfl)
  have d4 := lv_dep_leaf (show vcont (whV 2) = false from rfl)
  unfold m14 mpV
  rw [vdep]
  simp [kdep, d1, d2, d3, d4]
def zeV : Va := ⟨0, 0, false, [], 0, 0, [], []⟩
def liV : Va := ⟨7, 0, false, [], 0, 0, [], [whV 1, zeV]⟩
theorem lv_chk_li : chkV liV = some (0, [1]) := by
  have e : preV [] liV = [([], liV), ([0], whV 1), ([1], zeV)] := by
    rw [preV_eq, show liV.kids = [whV 1, zeV] from rfl]
    simp [preK, preV_eq, zeV, whV, Va.kids]
  have h7 : aloB liV = true := by
    unfold aloB flV flr fitB
    rw [show liV.text = [] from rfl, lv_em0]
    show ((decide ((1 : Int) ≤ 7) && decide ((7 : Int) ≤ 11)) && ((bits .andNot .u8 (flB false false false false false true) 32 == 0) && true)) = true
    decide
  have h0 : aloB zeV = false := by
    unfold aloB
    rw [show zeV.kind = 0 from rfl]
    rfl
  unfold chkV
  rw [e]
  simp only [List.find?_cons, h7, h0, lv_alo_wh (n := 1) (by omega) (by omega), Bool.not_true, Bool.not_false]
theorem lv_cmp_eq (a : Int) : vcmp (txV [a]) (txV [a]) = 0 := by
  rw [vcmp_eq]
  simp [hcmp, txV, Va.kind, Va.n, Va.ext, Va.bits, Va.text, Va.kids, vnum, Va.neg, Va.mag, sg3, lx, tcmp, kcmp]
theorem lv_find_b : fndB m14 (txV [98]) = some 1 := by
  have f0 : fdF m14 (txV [98]) 0 = -1 := lv_cmp_tx 97 98 (by omega)
  have f1 : fdF m14 (txV [98]) 1 = 0 := lv_cmp_eq 98
  have hb : bsG (fdF m14 (txV [98])) 0 2 = 1 := by
    rw [bsG_ge (m := 1) (by omega) (by omega) (by rw [f1]; omega), bsG_lt (m := 0) (by omega) (by omega) (by rw [f0]; omega), bsG_end (by omega)]
  unfold fndB
  rw [show m14.kids.length / 2 = 2 from rfl, hb, if_pos ⟨rfl, lv_chk_m14, lv_chk_leaf lv_a98 rfl, by simp [bsO, f1]⟩]
theorem lv_find_c : fndB m14 (txV [99]) = none := by
  have f1 : fdF m14 (txV [99]) 1 = -1 := lv_cmp_tx 98 99 (by omega)
  have hb : bsG (fdF m14 (txV [99])) 0 2 = 2 := by
    rw [bsG_lt (m := 1) (by omega) (by omega) (by rw [f1]; omega), bsG_end (by omega)]
  unfold fndB
  rw [show m14.kids.length / 2 = 2 from rfl, hb, if_neg (fun h => by have := h.2.2.2; simp [bsO] at this)]
theorem lv_path : strOfNums (pathT [1]) = ⟨#[47, 49]⟩ := by
  rw [pathT_one]
  have e : itoL 1 = [49] := by
    unfold itoL Lib.itoa
    rw [if_neg (by omega), show (1 : Int).toNat = 1 from rfl, Lib.decDigits, dif_pos (by omega)]
    rfl
  rw [e]
  rfl
theorem lv_cmp_ab : vcmp (txV [97]) (txV [97, 98]) = -1 := by
  rw [vcmp_eq]
  simp [hcmp, txV, Va.kind, Va.n, Va.ext, Va.bits, Va.text, Va.kids, vnum, Va.neg, Va.mag, sg3, lx, tcmp, kcmp]
def eqB (x : Va) (n2 : Int) (g2 : Bool) (l2 : Nat) (b2 e2 : Int) (t2 : ByteArray) (k2 : Nat) : Bool :=
  (x.n == n2) && ((x.neg == g2) && ((x.mag.length == l2) && ((x.bits == b2) && ((x.ext == e2) && (((strOfNums x.text).toList == t2.toList) && (x.kids.length == k2))))))
def AlR (x : Va) (ok : Bool) (n2 : Int) (g2 : Bool) (l2 : Nat) (b2 e2 : Int) (t2 : ByteArray) (k2 : Nat) : Prop := (ok && eqB x n2 g2 l2 b2 e2 t2 k2) = aloB x
theorem em_list : (⟨#[]⟩ : ByteArray).toList = [] := by rw [ByteArray.toList_eq]
theorem em_beq (s : ByteArray) : (s.toList == (⟨#[]⟩ : ByteArray).toList) = s.toList.isEmpty := by
  rw [em_list]
  cases s.toList <;> rfl
theorem al_no {x : Va} (h : ¬ (1 ≤ x.kind ∧ x.kind ≤ 11)) (n2 : Int) (g2 : Bool) (l2 : Nat) (b2 e2 : Int) (t2 : ByteArray) (k2 : Nat) : AlR x false n2 g2 l2 b2 e2 t2 k2 := by
  unfold AlR aloB
  have : (decide (1 ≤ x.kind) && decide (x.kind ≤ 11)) = false := by
    rw [Bool.and_eq_false_iff, decide_eq_false_iff_not, decide_eq_false_iff_not]
    omega
  rw [this]
  rfl
set_option maxRecDepth 10000 in
theorem flB_k1 : ∀ c1 c2 c3 c4 c5 c6, (bits .andNot .u8 (flB c1 c2 c3 c4 c5 c6) (0 : Nat) == 0) = !(c1 || c2 || c3 || c4 || c5 || c6) := by decide
theorem al_1 {x : Va} (hk : x.kind = 1) : AlR x (true) (0) (false) (0) (0) (0) (⟨#[]⟩) (0) := by
  have hf : fitB x = (true) := by
    unfold fitB
    rw [hk]
    rfl
  unfold AlR eqB aloB
  rw [hk, hf]
  generalize (true) = ok
  unfold flV flr
  rw [show (usTab.getD (1 : Int).toNat 0 : Nat) = 0 from rfl, flB_k1]
  have e1 : (x.n == 0) = !(x.n != 0) := by simp [bne]
  have e2 : (x.mag.length == 0) = !(decide (0 < (x.mag.length : Int))) := by
    by_cases h : x.mag.length = 0
    · rw [h]; rfl
    · rw [decide_eq_true (show (0 : Int) < (x.mag.length : Int) by omega)]
      simp [h]
  have e3 : (x.bits == 0) = !(x.bits != 0) := by simp [bne]
  have e4 : (x.ext == 0) = !(x.ext != 0) := by simp [bne]
  have e5 : ((strOfNums x.text).toList == (⟨#[]⟩ : ByteArray).toList) = !(!(strOfNums x.text).toList.isEmpty) := by rw [em_beq, Bool.not_not]
  have e6 : (x.kids.length == 0) = !(decide (0 < (x.kids.length : Int))) := by
    by_cases h : x.kids.length = 0
    · rw [h]; rfl
    · rw [decide_eq_true (show (0 : Int) < (x.kids.length : Int) by omega)]
      simp [h]
  try rw [e1]
  try rw [e2]
  try rw [e3]
  try rw [e4]
  try rw [e5]
  try rw [e6]
  clear e1 e2 e3 e4 e5 e6 hf hk
  try simp only [beq_self_eq_true]
  generalize (x.n != 0) = c1
  generalize x.neg = g
  generalize decide (0 < (x.mag.length : Int)) = m
  generalize (x.bits != 0) = c3
  generalize (x.ext != 0) = c4
  generalize (!(strOfNums x.text).toList.isEmpty) = c5
  generalize decide (0 < (x.kids.length : Int)) = c6
  show _ = ((decide ((1 : Int) ≤ 1) && decide ((1 : Int) ≤ 11)) && _)
  rw [show (decide ((1 : Int) ≤ 1) && decide ((1 : Int) ≤ 11)) = true from by decide]
  cases ok <;> cases c1 <;> cases g <;> cases m <;> cases c3 <;> cases c4 <;> cases c5 <;> cases c6 <;> rfl
set_option maxRecDepth 10000 in
theorem flB_k2 : ∀ c1 c2 c3 c4 c5 c6, (bits .andNot .u8 (flB c1 c2 c3 c4 c5 c6) (1 : Nat) == 0) = !(c2 || c3 || c4 || c5 || c6) := by decide
theorem al_2 {x : Va} (hk : x.kind = 2) : AlR x (decide (x.n ≤ 1)) (x.n) (false) (0) (0) (0) (⟨#[]⟩) (0) := by
  have hf : fitB x = (decide (x.n ≤ 1)) := by
    unfold fitB
    rw [hk]
    rfl
  unfold AlR eqB aloB
  rw [hk, hf]
  generalize (decide (x.n ≤ 1)) = ok
  unfold flV flr
  rw [show (usTab.getD (2 : Int).toNat 0 : Nat) = 1 from rfl, flB_k2]
  have e1 : (x.n == 0) = !(x.n != 0) := by simp [bne]
  have e2 : (x.mag.length == 0) = !(decide (0 < (x.mag.length : Int))) := by
    by_cases h : x.mag.length = 0
    · rw [h]; rfl
    · rw [decide_eq_true (show (0 : Int) < (x.mag.length : Int) by omega)]
      simp [h]
  have e3 : (x.bits == 0) = !(x.bits != 0) := by simp [bne]
  have e4 : (x.ext == 0) = !(x.ext != 0) := by simp [bne]
  have e5 : ((strOfNums x.text).toList == (⟨#[]⟩ : ByteArray).toList) = !(!(strOfNums x.text).toList.isEmpty) := by rw [em_beq, Bool.not_not]
  have e6 : (x.kids.length == 0) = !(decide (0 < (x.kids.length : Int))) := by
    by_cases h : x.kids.length = 0
    · rw [h]; rfl
    · rw [decide_eq_true (show (0 : Int) < (x.kids.length : Int) by omega)]
      simp [h]
  try rw [e1]
  try rw [e2]
  try rw [e3]
  try rw [e4]
  try rw [e5]
  try rw [e6]
  clear e1 e2 e3 e4 e5 e6 hf hk
  try simp only [beq_self_eq_true]
  generalize (x.n != 0) = c1
  generalize x.neg = g
  generalize decide (0 < (x.mag.length : Int)) = m
  generalize (x.bits != 0) = c3
  generalize (x.ext != 0) = c4
  generalize (!(strOfNums x.text).toList.isEmpty) = c5
  generalize decide (0 < (x.kids.length : Int)) = c6
  show _ = ((decide ((1 : Int) ≤ 2) && decide ((2 : Int) ≤ 11)) && _)
  rw [show (decide ((1 : Int) ≤ 2) && decide ((2 : Int) ≤ 11)) = true from by decide]
  cases ok <;> cases c1 <;> cases g <;> cases m <;> cases c3 <;> cases c4 <;> cases c5 <;> cases c6 <;> rfl
set_option maxRecDepth 10000 in
theorem flB_k3 : ∀ c1 c2 c3 c4 c5 c6, (bits .andNot .u8 (flB c1 c2 c3 c4 c5 c6) (2 : Nat) == 0) = !(c1 || c3 || c4 || c5 || c6) := by decide
theorem al_3 {x : Va} (hk : x.kind = 3) : AlR x (nrmB x.neg x.mag) (0) (x.neg) (x.mag.length) (0) (0) (⟨#[]⟩) (0) := by
  have hf : fitB x = (nrmB x.neg x.mag) := by
    unfold fitB
    rw [hk]
    rfl
  unfold AlR eqB aloB
  rw [hk, hf]
  generalize (nrmB x.neg x.mag) = ok
  unfold flV flr
  rw [show (usTab.getD (3 : Int).toNat 0 : Nat) = 2 from rfl, flB_k3]
  have e1 : (x.n == 0) = !(x.n != 0) := by simp [bne]
  have e2 : (x.mag.length == 0) = !(decide (0 < (x.mag.length : Int))) := by
    by_cases h : x.mag.length = 0
    · rw [h]; rfl
    · rw [decide_eq_true (show (0 : Int) < (x.mag.length : Int) by omega)]
      simp [h]
  have e3 : (x.bits == 0) = !(x.bits != 0) := by simp [bne]
  have e4 : (x.ext == 0) = !(x.ext != 0) := by simp [bne]
  have e5 : ((strOfNums x.text).toList == (⟨#[]⟩ : ByteArray).toList) = !(!(strOfNums x.text).toList.isEmpty) := by rw [em_beq, Bool.not_not]
  have e6 : (x.kids.length == 0) = !(decide (0 < (x.kids.length : Int))) := by
    by_cases h : x.kids.length = 0
    · rw [h]; rfl
    · rw [decide_eq_true (show (0 : Int) < (x.kids.length : Int) by omega)]
      simp [h]
  try rw [e1]
  try rw [e2]
  try rw [e3]
  try rw [e4]
  try rw [e5]
  try rw [e6]
  clear e1 e2 e3 e4 e5 e6 hf hk
  try simp only [beq_self_eq_true]
  generalize (x.n != 0) = c1
  generalize x.neg = g
  generalize decide (0 < (x.mag.length : Int)) = m
  generalize (x.bits != 0) = c3
  generalize (x.ext != 0) = c4
  generalize (!(strOfNums x.text).toList.isEmpty) = c5
  generalize decide (0 < (x.kids.length : Int)) = c6
  show _ = ((decide ((1 : Int) ≤ 3) && decide ((3 : Int) ≤ 11)) && _)
  rw [show (decide ((1 : Int) ≤ 3) && decide ((3 : Int) ≤ 11)) = true from by decide]
  cases ok <;> cases c1 <;> cases g <;> cases m <;> cases c3 <;> cases c4 <;> cases c5 <;> cases c6 <;> rfl
set_option maxRecDepth 10000 in
theorem flB_k4 : ∀ c1 c2 c3 c4 c5 c6, (bits .andNot .u8 (flB c1 c2 c3 c4 c5 c6) (4 : Nat) == 0) = !(c1 || c2 || c4 || c5 || c6) := by decide
theorem al_4 {x : Va} (hk : x.kind = 4) : AlR x (fltB x.bits) (0) (false) (0) (x.bits) (0) (⟨#[]⟩) (0) := by
  have hf : fitB x = (fltB x.bits) := by
    unfold fitB
    rw [hk]
    rfl
  unfold AlR eqB aloB
  rw [hk, hf]
  generalize (fltB x.bits) = ok
  unfold flV flr
  rw [show (usTab.getD (4 : Int).toNat 0 : Nat) = 4 from rfl, flB_k4]
  have e1 : (x.n == 0) = !(x.n != 0) := by simp [bne]
  have e2 : (x.mag.length == 0) = !(decide (0 < (x.mag.length : Int))) := by
    by_cases h : x.mag.length = 0
    · rw [h]; rfl
    · rw [decide_eq_true (show (0 : Int) < (x.mag.length : Int) by omega)]
      simp [h]
  have e3 : (x.bits == 0) = !(x.bits != 0) := by simp [bne]
  have e4 : (x.ext == 0) = !(x.ext != 0) := by simp [bne]
  have e5 : ((strOfNums x.text).toList == (⟨#[]⟩ : ByteArray).toList) = !(!(strOfNums x.text).toList.isEmpty) := by rw [em_beq, Bool.not_not]
  have e6 : (x.kids.length == 0) = !(decide (0 < (x.kids.length : Int))) := by
    by_cases h : x.kids.length = 0
    · rw [h]; rfl
    · rw [decide_eq_true (show (0 : Int) < (x.kids.length : Int) by omega)]
      simp [h]
  try rw [e1]
  try rw [e2]
  try rw [e3]
  try rw [e4]
  try rw [e5]
  try rw [e6]
  clear e1 e2 e3 e4 e5 e6 hf hk
  try simp only [beq_self_eq_true]
  generalize (x.n != 0) = c1
  generalize x.neg = g
  generalize decide (0 < (x.mag.length : Int)) = m
  generalize (x.bits != 0) = c3
  generalize (x.ext != 0) = c4
  generalize (!(strOfNums x.text).toList.isEmpty) = c5
  generalize decide (0 < (x.kids.length : Int)) = c6
  show _ = ((decide ((1 : Int) ≤ 4) && decide ((4 : Int) ≤ 11)) && _)
  rw [show (decide ((1 : Int) ≤ 4) && decide ((4 : Int) ≤ 11)) = true from by decide]
  cases ok <;> cases c1 <;> cases g <;> cases m <;> cases c3 <;> cases c4 <;> cases c5 <;> cases c6 <;> rfl
set_option maxRecDepth 10000 in
theorem flB_k5 : ∀ c1 c2 c3 c4 c5 c6, (bits .andNot .u8 (flB c1 c2 c3 c4 c5 c6) (16 : Nat) == 0) = !(c1 || c2 || c3 || c4 || c6) := by decide
theorem al_5 {x : Va} (hk : x.kind = 5) : AlR x (txB x.text) (0) (false) (0) (0) (0) ((strOfNums x.text)) (0) := by
  have hf : fitB x = (txB x.text) := by
    unfold fitB
    rw [hk]
    rfl
  unfold AlR eqB aloB
  rw [hk, hf]
  generalize (txB x.text) = ok
  unfold flV flr
  rw [show (usTab.getD (5 : Int).toNat 0 : Nat) = 16 from rfl, flB_k5]
  have e1 : (x.n == 0) = !(x.n != 0) := by simp [bne]
  have e2 : (x.mag.length == 0) = !(decide (0 < (x.mag.length : Int))) := by
    by_cases h : x.mag.length = 0
    · rw [h]; rfl
    · rw [decide_eq_true (show (0 : Int) < (x.mag.length : Int) by omega)]
      simp [h]
  have e3 : (x.bits == 0) = !(x.bits != 0) := by simp [bne]
  have e4 : (x.ext == 0) = !(x.ext != 0) := by simp [bne]
  have e5 : ((strOfNums x.text).toList == (⟨#[]⟩ : ByteArray).toList) = !(!(strOfNums x.text).toList.isEmpty) := by rw [em_beq, Bool.not_not]
  have e6 : (x.kids.length == 0) = !(decide (0 < (x.kids.length : Int))) := by
    by_cases h : x.kids.length = 0
    · rw [h]; rfl
    · rw [decide_eq_true (show (0 : Int) < (x.kids.length : Int) by omega)]
      simp [h]
  try rw [e1]
  try rw [e2]
  try rw [e3]
  try rw [e4]
  try rw [e5]
  try rw [e6]
  clear e1 e2 e3 e4 e5 e6 hf hk
  try simp only [beq_self_eq_true]
  generalize (x.n != 0) = c1
  generalize x.neg = g
  generalize decide (0 < (x.mag.length : Int)) = m
  generalize (x.bits != 0) = c3
  generalize (x.ext != 0) = c4
  generalize (!(strOfNums x.text).toList.isEmpty) = c5
  generalize decide (0 < (x.kids.length : Int)) = c6
  show _ = ((decide ((1 : Int) ≤ 5) && decide ((5 : Int) ≤ 11)) && _)
  rw [show (decide ((1 : Int) ≤ 5) && decide ((5 : Int) ≤ 11)) = true from by decide]
  cases ok <;> cases c1 <;> cases g <;> cases m <;> cases c3 <;> cases c4 <;> cases c5 <;> cases c6 <;> rfl
set_option maxRecDepth 10000 in
theorem flB_k6 : ∀ c1 c2 c3 c4 c5 c6, (bits .andNot .u8 (flB c1 c2 c3 c4 c5 c6) (16 : Nat) == 0) = !(c1 || c2 || c3 || c4 || c6) := by decide
theorem al_6 {x : Va} (hk : x.kind = 6) : AlR x (true) (0) (false) (0) (0) (0) ((strOfNums x.text)) (0) := by
  have hf : fitB x = (true) := by
    unfold fitB
    rw [hk]
    rfl
  unfold AlR eqB aloB
  rw [hk, hf]
  generalize (true) = ok
  unfold flV flr
  rw [show (usTab.getD (6 : Int).toNat 0 : Nat) = 16 from rfl, flB_k6]
  have e1 : (x.n == 0) = !(x.n != 0) := by simp [bne]
  have e2 : (x.mag.length == 0) = !(decide (0 < (x.mag.length : Int))) := by
    by_cases h : x.mag.length = 0
    · rw [h]; rfl
    · rw [decide_eq_true (show (0 : Int) < (x.mag.length : Int) by omega)]
      simp [h]
  have e3 : (x.bits == 0) = !(x.bits != 0) := by simp [bne]
  have e4 : (x.ext == 0) = !(x.ext != 0) := by simp [bne]
  have e5 : ((strOfNums x.text).toList == (⟨#[]⟩ : ByteArray).toList) = !(!(strOfNums x.text).toList.isEmpty) := by rw [em_beq, Bool.not_not]
  have e6 : (x.kids.length == 0) = !(decide (0 < (x.kids.length : Int))) := by
    by_cases h : x.kids.length = 0
    · rw [h]; rfl
    · rw [decide_eq_true (show (0 : Int) < (x.kids.length : Int) by omega)]
      simp [h]
  try rw [e1]
  try rw [e2]
  try rw [e3]
  try rw [e4]
  try rw [e5]
  try rw [e6]
  clear e1 e2 e3 e4 e5 e6 hf hk
  try simp only [beq_self_eq_true]
  generalize (x.n != 0) = c1
  generalize x.neg = g
  generalize decide (0 < (x.mag.length : Int)) = m
  generalize (x.bits != 0) = c3
  generalize (x.ext != 0) = c4
  generalize (!(strOfNums x.text).toList.isEmpty) = c5
  generalize decide (0 < (x.kids.length : Int)) = c6
  show _ = ((decide ((1 : Int) ≤ 6) && decide ((6 : Int) ≤ 11)) && _)
  rw [show (decide ((1 : Int) ≤ 6) && decide ((6 : Int) ≤ 11)) = true from by decide]
  cases ok <;> cases c1 <;> cases g <;> cases m <;> cases c3 <;> cases c4 <;> cases c5 <;> cases c6 <;> rfl
set_option maxRecDepth 10000 in
theorem flB_k7 : ∀ c1 c2 c3 c4 c5 c6, (bits .andNot .u8 (flB c1 c2 c3 c4 c5 c6) (32 : Nat) == 0) = !(c1 || c2 || c3 || c4 || c5) := by decide
theorem al_7 {x : Va} (hk : x.kind = 7) : AlR x (true) (0) (false) (0) (0) (0) (⟨#[]⟩) (x.kids.length) := by
  have hf : fitB x = (true) := by
    unfold fitB
    rw [hk]
    rfl
  unfold AlR eqB aloB
  rw [hk, hf]
  generalize (true) = ok
  unfold flV flr
  rw [show (usTab.getD (7 : Int).toNat 0 : Nat) = 32 from rfl, flB_k7]
  have e1 : (x.n == 0) = !(x.n != 0) := by simp [bne]
  have e2 : (x.mag.length == 0) = !(decide (0 < (x.mag.length : Int))) := by
    by_cases h : x.mag.length = 0
    · rw [h]; rfl
    · rw [decide_eq_true (show (0 : Int) < (x.mag.length : Int) by omega)]
      simp [h]
  have e3 : (x.bits == 0) = !(x.bits != 0) := by simp [bne]
  have e4 : (x.ext == 0) = !(x.ext != 0) := by simp [bne]
  have e5 : ((strOfNums x.text).toList == (⟨#[]⟩ : ByteArray).toList) = !(!(strOfNums x.text).toList.isEmpty) := by rw [em_beq, Bool.not_not]
  have e6 : (x.kids.length == 0) = !(decide (0 < (x.kids.length : Int))) := by
    by_cases h : x.kids.length = 0
    · rw [h]; rfl
    · rw [decide_eq_true (show (0 : Int) < (x.kids.length : Int) by omega)]
      simp [h]
  try rw [e1]
  try rw [e2]
  try rw [e3]
  try rw [e4]
  try rw [e5]
  try rw [e6]
  clear e1 e2 e3 e4 e5 e6 hf hk
  try simp only [beq_self_eq_true]
  generalize (x.n != 0) = c1
  generalize x.neg = g
  generalize decide (0 < (x.mag.length : Int)) = m
  generalize (x.bits != 0) = c3
  generalize (x.ext != 0) = c4
  generalize (!(strOfNums x.text).toList.isEmpty) = c5
  generalize decide (0 < (x.kids.length : Int)) = c6
  show _ = ((decide ((1 : Int) ≤ 7) && decide ((7 : Int) ≤ 11)) && _)
  rw [show (decide ((1 : Int) ≤ 7) && decide ((7 : Int) ≤ 11)) = true from by decide]
  cases ok <;> cases c1 <;> cases g <;> cases m <;> cases c3 <;> cases c4 <;> cases c5 <;> cases c6 <;> rfl
set_option maxRecDepth 10000 in
theorem flB_k8 : ∀ c1 c2 c3 c4 c5 c6, (bits .andNot .u8 (flB c1 c2 c3 c4 c5 c6) (32 : Nat) == 0) = !(c1 || c2 || c3 || c4 || c5) := by decide
theorem al_8 {x : Va} (hk : x.kind = 8) : AlR x (decide (x.kids.length % 2 = 0) && risK x.kids) (0) (false) (0) (0) (0) (⟨#[]⟩) (x.kids.length) := by
  have hf : fitB x = (decide (x.kids.length % 2 = 0) && risK x.kids) := by
    unfold fitB
    rw [hk]
    rfl
  unfold AlR eqB aloB
  rw [hk, hf]
  generalize (decide (x.kids.length % 2 = 0) && risK x.kids) = ok
  unfold flV flr
  rw [show (usTab.getD (8 : Int).toNat 0 : Nat) = 32 from rfl, flB_k8]
  have e1 : (x.n == 0) = !(x.n != 0) := by simp [bne]
  have e2 : (x.mag.length == 0) = !(decide (0 < (x.mag.length : Int))) := by
    by_cases h : x.mag.length = 0
    · rw [h]; rfl
    · rw [decide_eq_true (show (0 : Int) < (x.mag.length : Int) by omega)]
      simp [h]
  have e3 : (x.bits == 0) = !(x.bits != 0) := by simp [bne]
  have e4 : (x.ext == 0) = !(x.ext != 0) := by simp [bne]
  have e5 : ((strOfNums x.text).toList == (⟨#[]⟩ : ByteArray).toList) = !(!(strOfNums x.text).toList.isEmpty) := by rw [em_beq, Bool.not_not]
  have e6 : (x.kids.length == 0) = !(decide (0 < (x.kids.length : Int))) := by
    by_cases h : x.kids.length = 0
    · rw [h]; rfl
    · rw [decide_eq_true (show (0 : Int) < (x.kids.length : Int) by omega)]
      simp [h]
  try rw [e1]
  try rw [e2]
  try rw [e3]
  try rw [e4]
  try rw [e5]
  try rw [e6]
  clear e1 e2 e3 e4 e5 e6 hf hk
  try simp only [beq_self_eq_true]
  generalize (x.n != 0) = c1
  generalize x.neg = g
  generalize decide (0 < (x.mag.length : Int)) = m
  generalize (x.bits != 0) = c3
  generalize (x.ext != 0) = c4
  generalize (!(strOfNums x.text).toList.isEmpty) = c5
  generalize decide (0 < (x.kids.length : Int)) = c6
  show _ = ((decide ((1 : Int) ≤ 8) && decide ((8 : Int) ≤ 11)) && _)
  rw [show (decide ((1 : Int) ≤ 8) && decide ((8 : Int) ≤ 11)) = true from by decide]
  cases ok <;> cases c1 <;> cases g <;> cases m <;> cases c3 <;> cases c4 <;> cases c5 <;> cases c6 <;> rfl
set_option maxRecDepth 10000 in
theorem flB_k9 : ∀ c1 c2 c3 c4 c5 c6, (bits .andNot .u8 (flB c1 c2 c3 c4 c5 c6) (33 : Nat) == 0) = !(c2 || c3 || c4 || c5) := by decide
theorem al_9 {x : Va} (hk : x.kind = 9) : AlR x ((x.n != 2 && x.n != 3) && decide (x.kids.length = 1)) (x.n) (false) (0) (0) (0) (⟨#[]⟩) (x.kids.length) := by
  have hf : fitB x = ((x.n != 2 && x.n != 3) && decide (x.kids.length = 1)) := by
    unfold fitB
    rw [hk]
    rfl
  unfold AlR eqB aloB
  rw [hk, hf]
  generalize ((x.n != 2 && x.n != 3) && decide (x.kids.length = 1)) = ok
  unfold flV flr
  rw [show (usTab.getD (9 : Int).toNat 0 : Nat) = 33 from rfl, flB_k9]
  have e1 : (x.n == 0) = !(x.n != 0) := by simp [bne]
  have e2 : (x.mag.length == 0) = !(decide (0 < (x.mag.length : Int))) := by
    by_cases h : x.mag.length = 0
    · rw [h]; rfl
    · rw [decide_eq_true (show (0 : Int) < (x.mag.length : Int) by omega)]
      simp [h]
  have e3 : (x.bits == 0) = !(x.bits != 0) := by simp [bne]
  have e4 : (x.ext == 0) = !(x.ext != 0) := by simp [bne]
  have e5 : ((strOfNums x.text).toList == (⟨#[]⟩ : ByteArray).toList) = !(!(strOfNums x.text).toList.isEmpty) := by rw [em_beq, Bool.not_not]
  have e6 : (x.kids.length == 0) = !(decide (0 < (x.kids.length : Int))) := by
    by_cases h : x.kids.length = 0
    · rw [h]; rfl
    · rw [decide_eq_true (show (0 : Int) < (x.kids.length : Int) by omega)]
      simp [h]
  try rw [e1]
  try rw [e2]
  try rw [e3]
  try rw [e4]
  try rw [e5]
  try rw [e6]
  clear e1 e2 e3 e4 e5 e6 hf hk
  try simp only [beq_self_eq_true]
  generalize (x.n != 0) = c1
  generalize x.neg = g
  generalize decide (0 < (x.mag.length : Int)) = m
  generalize (x.bits != 0) = c3
  generalize (x.ext != 0) = c4
  generalize (!(strOfNums x.text).toList.isEmpty) = c5
  generalize decide (0 < (x.kids.length : Int)) = c6
  show _ = ((decide ((1 : Int) ≤ 9) && decide ((9 : Int) ≤ 11)) && _)
  rw [show (decide ((1 : Int) ≤ 9) && decide ((9 : Int) ≤ 11)) = true from by decide]
  cases ok <;> cases c1 <;> cases g <;> cases m <;> cases c3 <;> cases c4 <;> cases c5 <;> cases c6 <;> rfl
set_option maxRecDepth 10000 in
theorem flB_k10 : ∀ c1 c2 c3 c4 c5 c6, (bits .andNot .u8 (flB c1 c2 c3 c4 c5 c6) (1 : Nat) == 0) = !(c2 || c3 || c4 || c5 || c6) := by decide
theorem al_10 {x : Va} (hk : x.kind = 10) : AlR x (decide (x.n ≤ 19) || x.n == 23 || (decide (32 ≤ x.n) && decide (x.n ≤ 255))) (x.n) (false) (0) (0) (0) (⟨#[]⟩) (0) := by
  have hf : fitB x = (decide (x.n ≤ 19) || x.n == 23 || (decide (32 ≤ x.n) && decide (x.n ≤ 255))) := by
    unfold fitB
    rw [hk]
    rfl
  unfold AlR eqB aloB
  rw [hk, hf]
  generalize (decide (x.n ≤ 19) || x.n == 23 || (decide (32 ≤ x.n) && decide (x.n ≤ 255))) = ok
  unfold flV flr
  rw [show (usTab.getD (10 : Int).toNat 0 : Nat) = 1 from rfl, flB_k10]
  have e1 : (x.n == 0) = !(x.n != 0) := by simp [bne]
  have e2 : (x.mag.length == 0) = !(decide (0 < (x.mag.length : Int))) := by
    by_cases h : x.mag.length = 0
    · rw [h]; rfl
    · rw [decide_eq_true (show (0 : Int) < (x.mag.length : Int) by omega)]
      simp [h]
  have e3 : (x.bits == 0) = !(x.bits != 0) := by simp [bne]
  have e4 : (x.ext == 0) = !(x.ext != 0) := by simp [bne]
  have e5 : ((strOfNums x.text).toList == (⟨#[]⟩ : ByteArray).toList) = !(!(strOfNums x.text).toList.isEmpty) := by rw [em_beq, Bool.not_not]
  have e6 : (x.kids.length == 0) = !(decide (0 < (x.kids.length : Int))) := by
    by_cases h : x.kids.length = 0
    · rw [h]; rfl
    · rw [decide_eq_true (show (0 : Int) < (x.kids.length : Int) by omega)]
      simp [h]
  try rw [e1]
  try rw [e2]
  try rw [e3]
  try rw [e4]
  try rw [e5]
  try rw [e6]
  clear e1 e2 e3 e4 e5 e6 hf hk
  try simp only [beq_self_eq_true]
  generalize (x.n != 0) = c1
  generalize x.neg = g
  generalize decide (0 < (x.mag.length : Int)) = m
  generalize (x.bits != 0) = c3
  generalize (x.ext != 0) = c4
  generalize (!(strOfNums x.text).toList.isEmpty) = c5
  generalize decide (0 < (x.kids.length : Int)) = c6
  show _ = ((decide ((1 : Int) ≤ 10) && decide ((10 : Int) ≤ 11)) && _)
  rw [show (decide ((1 : Int) ≤ 10) && decide ((10 : Int) ≤ 11)) = true from by decide]
  cases ok <;> cases c1 <;> cases g <;> cases m <;> cases c3 <;> cases c4 <;> cases c5 <;> cases c6 <;> rfl
set_option maxRecDepth 10000 in
theorem flB_k11 : ∀ c1 c2 c3 c4 c5 c6, (bits .andNot .u8 (flB c1 c2 c3 c4 c5 c6) (24 : Nat) == 0) = !(c1 || c2 || c3 || c6) := by decide
theorem al_11 {x : Va} (hk : x.kind = 11) : AlR x (true) (0) (false) (0) (0) (x.ext) ((strOfNums x.text)) (0) := by
  have hf : fitB x = (true) := by
    unfold fitB
    rw [hk]
    rfl
  unfold AlR eqB aloB
  rw [hk, hf]
  generalize (true) = ok
  unfold flV flr
  rw [show (usTab.getD (11 : Int).toNat 0 : Nat) = 24 from rfl, flB_k11]
  have e1 : (x.n == 0) = !(x.n != 0) := by simp [bne]
  have e2 : (x.mag.length == 0) = !(decide (0 < (x.mag.length : Int))) := by
    by_cases h : x.mag.length = 0
    · rw [h]; rfl
    · rw [decide_eq_true (show (0 : Int) < (x.mag.length : Int) by omega)]
      simp [h]
  have e3 : (x.bits == 0) = !(x.bits != 0) := by simp [bne]
  have e4 : (x.ext == 0) = !(x.ext != 0) := by simp [bne]
  have e5 : ((strOfNums x.text).toList == (⟨#[]⟩ : ByteArray).toList) = !(!(strOfNums x.text).toList.isEmpty) := by rw [em_beq, Bool.not_not]
  have e6 : (x.kids.length == 0) = !(decide (0 < (x.kids.length : Int))) := by
    by_cases h : x.kids.length = 0
    · rw [h]; rfl
    · rw [decide_eq_true (show (0 : Int) < (x.kids.length : Int) by omega)]
      simp [h]
  try rw [e1]
  try rw [e2]
  try rw [e3]
  try rw [e4]
  try rw [e5]
  try rw [e6]
  clear e1 e2 e3 e4 e5 e6 hf hk
  try simp only [beq_self_eq_true]
  generalize (x.n != 0) = c1
  generalize x.neg = g
  generalize decide (0 < (x.mag.length : Int)) = m
  generalize (x.bits != 0) = c3
  generalize (x.ext != 0) = c4
  generalize (!(strOfNums x.text).toList.isEmpty) = c5
  generalize decide (0 < (x.kids.length : Int)) = c6
  show _ = ((decide ((1 : Int) ≤ 11) && decide ((11 : Int) ≤ 11)) && _)
  rw [show (decide ((1 : Int) ≤ 11) && decide ((11 : Int) ≤ 11)) = true from by decide]
  cases ok <;> cases c1 <;> cases g <;> cases m <;> cases c3 <;> cases c4 <;> cases c5 <;> cases c6 <;> rfl
end Go.Proofs.YticmlelalbaalaaGreatDoor
