import Derived.Test.YticmlelalbaalaaGreatDoorB50
import Derived.Test.YticmlelalbaalaaGreatDoorB47
import Derived.Test.YticmlelalbaalaaGreatDoorB27
import Derived.Deep.DeepAppendRoom
import Derived.Test.YticmlelalbaalaaGreatDoorB53
import Derived.Test.YticmlelalbaalaaGreatDoorB25
import Derived.Test.YticmlelalbaalaaGreatDoorB22
import Derived.Test.YticmlelalbaalaaGreatDoorB43
import Derived.Test.YticmlelalbaalaaGreatDoorB45
import Derived.Test.YticmlelalbaalaaGreatDoorB46
import Derived.Laws.ResultCell
namespace Go.Proofs.YticmlelalbaalaaGreatDoor
open List (setIfInBounds_toArray set_cons_zero set_cons_succ)
open Go.RowKit Go.Shelf
set_option linter.unusedVariables false
set_option linter.unusedSimpArgs false
set_option maxHeartbeats 4000000 in
theorem rcont_any {w : World} {v : Value} {x : Va} (h : VaRd w v x) : Calls Tryz.prog 85 #[v] w fun e w' => e = .returned (.bool (vcont x)) ∧ Below w.heap.size w w' := by
  obtain ⟨⟨vm1, vk1, rfl, hm1, hk1⟩, hw1⟩ := h
  obtain ⟨mo1, mc1, rfl, -, -⟩ : ∃ ao cap, vm1 = .slice ao x.mag.length cap ∧ True ∧ True := by obtain ⟨ao, cap, h, _⟩ := hm1; exact ⟨ao, cap, h, trivial, trivial⟩
  obtain ⟨ko1, kc1, rfl, -, -⟩ := hk1.len
  clear hm1 hk1 hw1
  unfold vaV vcont
  generalize x.mag.length = n1
  generalize x.kids.length = l1
  generalize strOfNums x.text = tx
  generalize x.kind = k
  generalize x.n = n
  generalize x.neg = g
  generalize x.bits = b
  generalize x.ext = e
  by_cases h7 : k = 7
  · subst h7
    go_enter Tryz.func85, Tryz.ntmps85
    go_wp2
    go_ret
    exact ⟨rfl, bel_new _ _⟩
  · by_cases h8 : k = 8
    · subst h8
      go_enter Tryz.func85, Tryz.ntmps85
      go_wp2
      go_ret
      exact ⟨rfl, bel_new _ _⟩
    · have e7 : (k == 7) = false := by simp [h7]
      have e8 : (k == 8) = false := by simp [h8]
      have HE := hide (show (k == 7 || k == 8 || k == 9) = (k == 9) by rw [e7, e8]; rfl)
      go_enter Tryz.func85, Tryz.ntmps85
      go_wp2
      go_ret
      exact ⟨by rw [HE.out]; rfl, bel_new _ _⟩
def OwI (W0 w : World) (s : Value) (ps : List Int) : Prop := w.ownsRow W0.heap.size 3 1 s ps.length (ps.map (Value.int .i64))
theorem run_api {w : World} {base n : Nat} {v : Value} {ys : List Value} {z : Int} {ad : Addr} {c : Nat} (hown : w.ownsRow base 3 1 v n ys) (hnews : w.cell? (ad.add 0) = some (.int .i64 z))
    (hby : n + 1 ≤ 8796093022208) (hbase : base ≤ w.heap.size) (ty : TypeId) :
    ∃ v' w', (Builtin.append_ #[61, 61] ty #[v, .slice (some ad) 1 c]).run Tryz.prog w = .ok v' w' ∧ w'.ownsRow base 3 1 v' (n + 1) (ys ++ [.int .i64 z]) ∧
      ((w.grownBy w' none ∧ v'.ownBlock = some w.heap.size) ∨ ∃ g cap, n + 1 ≤ cap ∧ v = .slice (some ⟨g, 0, none⟩) n cap ∧ v' = .slice (some ⟨g, 0, none⟩) (n + 1) cap ∧ w.grownBy w' (some g)) := by
  obtain ⟨i0, hi0, hz0, hz1, hz2⟩ := info_int
  have hn : ∀ j u, ([Value.int .i64 z] : List Value)[j]? = some u → w.cell? (ad.add j) = some u := fun j u h => by
    match j, h with
    | 0, h => cases h; exact hnews
  have h1c : ∀ u ∈ [Value.int .i64 z], u.oneCell' = true := fun u hu => by rw [List.mem_singleton.1 hu]; rfl
  have hown' := hown
  obtain ⟨h0, ⟨rfl, h1⟩ | ⟨g, cap, cur, rfl, h2, h3, h4, h5, h6, h7⟩⟩ := hown'
  · obtain ⟨v', w', r1, r2, r3, r4, r5⟩ := run_append_own_at (P := Tryz.prog) w base 61 ty 3 i0 _ 1 8 Tryz.underlying61 hi0 hz0 hz1 hz2 rfl (by decide) _ n ys hown ad 1 c [.int .i64 z] rfl hn h1c (by unfold maxLen; omega) (by omega) hbase
    refine ⟨v', w', r1, r2, .inl ⟨r3, ?_⟩⟩
    rcases r5 with e | e
    · obtain ⟨_, ⟨e1, e2⟩ | ⟨g, cap, cur, rfl, _⟩⟩ := r2
      · omega
      · cases e
    · exact e
  · by_cases hc : n + 1 ≤ cap
    · obtain ⟨w', r1, r2, r3⟩ := run_append_own_spare (P := Tryz.prog) w base 61 ty 3 i0 1 Tryz.underlying61 hi0 hz1 g n cap ys hown ad 1 c [.int .i64 z] rfl hn h1c hc
      exact ⟨_, w', r1, r2, .inr ⟨g, cap, hc, rfl, rfl, r3⟩⟩
    · obtain ⟨v', w', r1, r2, r3, r4, r5⟩ := run_append_own_at (P := Tryz.prog) w base 61 ty 3 i0 _ 1 8 Tryz.underlying61 hi0 hz0 hz1 hz2 rfl (by decide) _ n ys hown ad 1 c [.int .i64 z] rfl hn h1c (by unfold maxLen; omega) (by omega) hbase
      have hr := run_append_grow (P := Tryz.prog) w 61 ty 3 i0 _ Tryz.underlying61 hi0 hz0 ⟨g, 0, none⟩ n cap ys (by rw [hz1]; exact hown.1) (hown.cells (g := g) rfl) ad 1 c [.int .i64 z] (by rw [hz1]; rfl) hn (by omega) (by omega) (growslice_fits (by omega) (by rw [hz2]; omega))
      rw [hr] at r1
      injection r1 with e1 e2
      refine ⟨v', w', by rw [hr, e1, e2], r2, .inl ⟨?_, by rw [← e1]; rfl⟩⟩
      rw [← e2]
      exact ⟨rfl, rfl, rfl, by simp, fun k hk _ => (Below.heap_alloc w.drew _ k hk).trans rfl⟩
theorem wp_api {o : Oper} {a : Act} {w w' : World} {K : Act → World → Prop} {Q : Exit → Act → World → Prop} {s x : Operand} (hop : o.op = .call { callee := .builtin .append, args := #[s, x], argTypes := #[61, 61] }) {v va v' : Value} (hs : a.eval s = v) (hx : a.eval x = va)
    (hrun : (Builtin.append_ #[61, 61] o.type #[v, va]).run Tryz.prog w = .ok v' w') (h : K (a.put o.dst v') w') : o.wp Tryz.prog a w K Q := by
  unfold Oper.wp
  simp [execOp, hop, resolve, invoke, builtin, hs, hx, hrun, Result.andThen]
  exact h
structure WgI (W0 w1 : World) (s : Value) (ps : List Int) (wr : World) : Prop where
  lo : Below W0.heap.size W0 wr
  ow : OwI W0 wr s ps
  fx : BelX (fun k => s.ownBlock = some k) w1.heap.size w1 wr
theorem WgI.step {W0 w1 wr u1 u2 u3 : World} {s s1 : Value} {ps : List Int} {z : Int} (h : WgI W0 w1 s ps wr) (hu1 : Below wr.heap.size wr u1)
    (ha : (u1.grownBy u2 none ∧ s1.ownBlock = some u1.heap.size) ∨ ∃ g cap, ps.length + 1 ≤ cap ∧ s = .slice (some ⟨g, 0, none⟩) ps.length cap ∧ s1 = .slice (some ⟨g, 0, none⟩) (ps.length + 1) cap ∧ u1.grownBy u2 (some g))
    (hlo : Below W0.heap.size W0 u3) (how : OwI W0 u3 s1 (ps ++ [z])) (hfx : BelX (fun k => s1.ownBlock = some k) u2.heap.size u2 u3) : WgI W0 w1 s ps u3 := by
  have hsz : u1.heap.size ≤ u2.heap.size := by rcases ha with ⟨h, -⟩ | ⟨g, cap, -, -, -, h⟩ <;> exact h.size
  have key : ∀ k, k < wr.heap.size → s.ownBlock ≠ some k → u3.heap[k]? = wr.heap[k]? := fun k hk hs => by
    have e1 := hu1.block k hk
    have k1 : k < u1.heap.size := Nat.lt_of_lt_of_le hk hu1.size
    rcases ha with ⟨hg, hb⟩ | ⟨g, cap, hc, rfl, rfl, hg⟩
    · have e2 := hg.block k k1 (by simp)
      exact (hfx.block k (by omega) (fun e => by rw [hb] at e; cases e; omega)).trans (e2.trans e1)
    · have e2 := hg.block k k1 (fun e => hs e.symm)
      exact (hfx.block k (by omega) (fun e => hs e)).trans (e2.trans e1)
  have z1 := h.fx.size
  have z2 := hu1.size
  have z3 := hfx.size
  refine ⟨hlo, ?_, ⟨?_, ?_, ?_, by omega, fun k hk hx => (key k (by omega) hx).trans (h.fx.block k hk hx)⟩⟩
  · rcases ha with ⟨hg, hb⟩ | ⟨g, cap, hc, rfl, rfl, hg⟩
    · have ho := h.ow
      unfold OwI at ho ⊢
      refine own_keptV ho (fun k hk => ?_)
      have hl := (own_in ho hk).2
      exact (hfx.block k (by have := hu1.size; omega) (fun e => by rw [hb] at e; cases e; omega)).trans ((hg.block k (by omega) (by simp)).trans (hu1.block k hl))
    · unfold OwI at how ⊢
      have := how
      rw [show (ps ++ [z]).length = ps.length + 1 by simp] at this
      exact (own_cut (n := ps.length + 1) (l := ps) (c := z) (by rw [show (ps ++ [z]).length = ps.length + 1 by simp]; exact this)).2.2.2
  · rcases ha with ⟨hg, hb⟩ | ⟨g, cap, hc, rfl, rfl, hg⟩ <;> exact hfx.os.trans (hg.os.trans (hu1.os.trans h.fx.os))
  · rcases ha with ⟨hg, hb⟩ | ⟨g, cap, hc, rfl, rfl, hg⟩ <;> exact hfx.tape.trans (hg.tape.trans (hu1.tape.trans h.fx.tape))
  · rcases ha with ⟨hg, hb⟩ | ⟨g, cap, hc, rfl, rfl, hg⟩ <;> exact hfx.output.trans (hg.output.trans (hu1.output.trans h.fx.output))
theorem WgI.base {W0 w W1 wr : World} {s : Value} {ps : List Int} (h : WgI W0 W1 s ps wr) (hb : Below w.heap.size w W1) : WgI W0 w s ps wr :=
  ⟨h.lo, h.ow, (BelX.of hb (Nat.le_refl _)).trans (h.fx.mono hb.size (fun _ _ h => h))⟩
theorem WgI.far {W0 w1 wr u : World} {s : Value} {ps : List Int} (h : WgI W0 w1 s ps wr) (hb : Below wr.heap.size wr u) : WgI W0 w1 s ps u :=
  ⟨below_trans h.lo (hb.mono (Nat.le_refl _)), own_far h.ow hb, h.fx.trans (BelX.of (hb.mono h.fx.size) (Nat.le_refl _))⟩
structure FdR (W0 w : World) (s : Value) (ps : List Int) (e : Ending) (w' : World) (r : Option (List Int)) : Prop where
  I : WgI W0 w s ps w'
  no : r = none → e = .returned (.tuple #[.slice none 0 0, .bool false])
  yes : ∀ p, r = some p → ∃ s', e = .returned (.tuple #[s', .bool true]) ∧ OwI W0 w' s' p
def FdOf (fn : FuncId) (Ok : Va → Prop) (T : List Int × Va → Bool) (x : Va) : Prop := ∀ (W0 w : World) (v s : Value) (ps : List Int), Ok x → VaRd W0 v x → Below W0.heap.size W0 w → OwI W0 w s ps → ps.length + vnod x ≤ 1048577 →
  Calls Tryz.prog fn #[v, s] w fun e w' => FdR W0 w s ps e w' (((preV ps x).find? T).map Prod.fst)
theorem find_kids {T : List Int × Va → Bool} {ps : List Int} {xs : List Va} {j : Nat} (hj : j < xs.length) : (preK ps j (xs.drop j)).find? T = ((preV (ps ++ [(j : Int)]) xs[j]).find? T).or ((preK ps (j + 1) (xs.drop (j + 1))).find? T) := by
  rw [preK_at ps xs hj, List.find?_append]
theorem al_leaf {x : Va} (h : aloB x = true) (hc : vcont x = false) : x.kids = [] := by
  by_cases hk : 1 ≤ x.kind ∧ x.kind ≤ 11
  · unfold vcont at hc
    simp only [Bool.or_eq_false_iff, beq_eq_false_iff_ne] at hc
    have key : ∀ {ok : Bool} {n2 : Int} {g2 : Bool} {l2 : Nat} {b2 e2 : Int} {t2 : ByteArray}, AlR x ok n2 g2 l2 b2 e2 t2 0 → x.kids = [] := fun hr => by
      unfold AlR eqB at hr
      rw [h] at hr
      simp only [Bool.and_eq_true] at hr
      exact List.eq_nil_of_length_eq_zero (by simpa using hr.2.2.2.2.2.2.2)
    obtain ⟨k1, k2⟩ := hk
    rcases (by omega : x.kind = 1 ∨ x.kind = 2 ∨ x.kind = 3 ∨ x.kind = 4 ∨ x.kind = 5 ∨ x.kind = 6 ∨ x.kind = 10 ∨ x.kind = 11) with e | e | e | e | e | e | e | e
    · exact key (al_1 e)
    · exact key (al_2 e)
    · exact key (al_3 e)
    · exact key (al_4 e)
    · exact key (al_5 e)
    · exact key (al_6 e)
    · exact key (al_10 e)
    · exact key (al_11 e)
  · have := al_no (n2 := 0) (g2 := false) (l2 := 0) (b2 := 0) (e2 := 0) (t2 := ⟨#[]⟩) (k2 := 0) hk
    unfold AlR at this
    rw [h] at this
    cases this
def OkW (x : Va) : Prop := vpts x ≤ 1048576
noncomputable def TW : List Int × Va → Bool := fun q => !aloB q.2
set_option maxHeartbeats 16000000 in
set_option maxRecDepth 100000 in
theorem rwrong_step {x : Va} (ih : ∀ k ∈ x.kids, FdOf 41 OkW TW k) : FdOf 41 OkW TW x := by
  intro W0 w v s ps hok hv hlo how hbd
  obtain ⟨q, rfl, rfl, g⟩ := hv.cl
  obtain ⟨zs, hz1, hz2, hz3⟩ := g.2.2.cl
  obtain ⟨ao, cap, e7, hx⟩ := hz3
  rw [List.length_map] at e7 hx
  obtain ⟨W1, hW1⟩ : ∃ W1, w.alloc (.cells (clQ q).L.toArray 31) = W1 := ⟨_, rfl⟩
  obtain ⟨b1, k1, s1z⟩ := bx_box hW1 (hv.far hlo)
  have h7 : W1.cell? ⟨w.heap.size, 7, none⟩ = some (.slice ao zs.length cap) := by
    have := b1.row 7 (.slice (clQ q).ko (clQ q).kl (clQ q).kc) rfl
    have e : Value.slice (clQ q).ko (clQ q).kl (clQ q).kc = .slice ao zs.length cap := by
      show Value.slice (clS q.2.2).1 (clS q.2.2).2.1 (clS q.2.2).2.2 = _
      rw [e7]
      rfl
    rw [e] at this
    simpa using this
  have hsb : ∀ k, s.ownBlock = some k → W0.heap.size ≤ k ∧ k < w.heap.size := fun k hk => own_in how hk
  have hne : s.ownBlock ≠ some w.heap.size := fun e => by have := (hsb _ e).2; omega
  have HNE := hide hne
  have hzl : zs.length = q.1.kids.length := by rw [← hz1, List.length_map]
  have hnl : zs.length ≤ 1048577 := by have := knod_len q.1.kids; have := vnod_eq q.1; omega
  have HB1 := hide (fun (u : World) (hu : Below W1.heap.size W1 u) => b1.below hu)
  have I1 := hide (show WgI W0 W1 s ps W1 from ⟨below_trans hlo (k1.mono (by omega)), own_far how k1, BelX.refl _ _ _⟩)
  have HK1 := hide k1
  have HV := hide hv
  have HLO := hide hlo
  have HOW := hide how
  have HBD := hide hbd
  have HOK := hide hok
  have HIH := hide ih
  have HZ1 := hide hz1
  have HZ2 := hide hz2
  have HX := hide hx
  have H7 := hide h7
  have HS1 := hide s1z
  have HW1 := hide hW1
  have HSB := hide hsb
  have HZL := hide hzl
  have hal := True.intro
  have HAL := hide (fun (u : World) (hu : Below W1.heap.size W1 u) => ralone_any ((b1.below hu).rd) hok)
  clear hW1 b1 k1 s1z h7 hv hlo how hbd hok ih hz1 hz2 hx e7 hsb hzl g hne
  generalize hc : clQ q = c at *
  clear hc
  generalize q.1 = x at *
  go_enter Tryz.func41, Tryz.ntmps41
  unfold Cl.V
  go_upto_region 1 with fail
  try rw [HW1.out]
  have K : Below W1.heap.size W1 W1 := Below.refl _ _
  go_wp2_with (first | (refine wpList_ldV rfl _ rfl (w.heap.size) 0 rfl c (HB1.out _ K).row ?_; try simp only [Act.put, setIfInBounds_toArray, set_cons_zero, set_cons_succ]))
  with_reducible refine (HAL.out _ K).mono ?_
  rintro e w2 ⟨rfl, hb⟩
  replace K := below_trans K hb
  clear hb HAL
  obtain ⟨al, hae⟩ : ∃ z, aloB x = z := ⟨_, rfl⟩
  rw [hae]
  have HTF := hide (show TW (ps, x) = !al by unfold TW; rw [hae])
  clear hae
  cases al with
  | false =>
    have HI2 := hide ((I1.out.far K).base HK1.out)
    clear K
    go_wp2
    go_ret2
    have hf : ((preV ps x).find? TW).map Prod.fst = some ps := by rw [preV_eq, List.find?_cons, HTF.out]; rfl
    exact ⟨HI2.out, fun e => (by rw [hf] at e; cases e), fun p' e => by rw [hf] at e; cases e; exact ⟨s, rfl, HI2.out.ow⟩⟩
  | true =>
    go_wp2_with fail
    obtain ⟨n, hn⟩ : ∃ n, zs.length = n := ⟨_, rfl⟩
    have HN := hide hn
    rw [hn] at H7 hnl
    clear hn
    go_loopw [6, 7, 8] (fun i p b wr => ∃ j : Nat, i = .int .i64 (j : Int) ∧ j ≤ n ∧ Hid (((preV ps x).find? TW).map Prod.fst = ((preK ps j (x.kids.drop j)).find? TW).map Prod.fst) ∧ Hid (WgI W0 W1 s ps wr)) (fun i _ _ _ => n - (intOf i).toNat)
    case atStart => exact ⟨0, rfl, Nat.zero_le _, hide (by rw [preV_eq, List.find?_cons, HTF.out]; rfl), hide (I1.out.far K)⟩
    case round =>
      obtain ⟨j, rfl, hj, HF, HI⟩ := hrel
      have c7 : wr.cell? ⟨w.heap.size, 7, none⟩ = some (.slice ao n cap) := (HI.out.fx.cell (p := ⟨w.heap.size, 7, none⟩) (by show w.heap.size < _; rw [HS1.out]; omega) HNE.out).trans H7.out
      by_cases hjn : j < n
      · have q1 : (j : Int) < (n : Int) := by omega
        have q2 : (0 : Int) ≤ (j : Int) := by omega
        have q3 : IntKind.i64.wrap ((j : Int) + 1) = (j : Int) + 1 := by rw [IntKind.wrap_i64]; omega
        obtain ⟨bk, off, hao, hbl, hcc⟩ := HX.out (by rw [HN.out]; omega)
        subst hao
        have hjz : j < zs.length := by rw [HN.out]; exact hjn
        obtain ⟨zq, hzq⟩ : ∃ z, zs[j] = z := ⟨_, rfl⟩
        have hzm : zq ∈ zs := hzq ▸ List.getElem_mem _
        have hr := hcc j (clQ zq) (by rw [List.getElem?_map, List.getElem?_eq_getElem hjz, hzq]; rfl)
        have hjk : j < x.kids.length := by rw [← HZL.out]; exact hjz
        have hk : x.kids[j] = zq.1 := by
          have : (zs.map Prod.fst)[j]'(by rw [List.length_map]; exact hjz) = zq.1 := by rw [List.getElem_map, hzq]
          rw [← this]
          congr 1
          exact HZ1.out.symm
        have HFK := hide (find_kids (T := TW) (ps := ps) hjk)
        rw [hk] at HFK
        have HMK := hide (show zq.1 ∈ x.kids by rw [← hk]; exact List.getElem_mem _)
        have HVK := hide (HZ2.out zq hzm).rd
        have HBK := hide (show ps.length + 1 + vnod zq.1 ≤ 1048577 by
          have h1 := knod_lt hjk
          rw [hk] at h1
          have := HBD.out
          omega)
        have HCC := hide (fun (u : World) (hu : Below W0.heap.size W0 u) (he : u.heap[w.heap.size]? = W1.heap[w.heap.size]?) => (show u.cell? ⟨w.heap.size, 7, none⟩ = some (.slice (some ⟨bk, off, none⟩) n cap) ∧ u.rangeAt bk (off + j * 8) (clQ zq).L from
          ⟨(World.cell?_of_block he).trans H7.out, Below.range hr hu hbl⟩))
        have HBKL := hide hbl
        clear hcc hzq hzm hr hbl hjz hjk hk
        generalize clQ zq = ck at *
        generalize zq.1 = y at *
        obtain ⟨p1, hp1⟩ : ∃ p, off + j * 8 = p := ⟨_, rfl⟩
        rw [hp1] at HCC
        have HP1 := hide hp1
        go_upto_region 6 with fail
        clear c7
        have hIa := HI.out.far (Below.refl wr.heap.size wr).drew
        have heb : wr.drew.heap[w.heap.size]? = W1.heap[w.heap.size]? := hIa.fx.block _ (by rw [HS1.out]; omega) HNE.out
        have HC0 := HCC.out _ hIa.lo heb
        refine wpHl.region0 (C := fun u => u.cell? ⟨w.heap.size, 7, none⟩ = some (.slice (some ⟨bk, off, none⟩) n cap) ∧ u.rangeAt bk p1 ck.L) (by kernel_rfl) (by kernel_rfl) (fun HS => ?_)
        have kdr : Below wr.heap.size wr wr.drew := (Below.refl _ _).drew
        generalize wr.drew = ua at *
        refine wpHl.tk0 (i := 0) (d := some 21) (v := .pointer (some ⟨w.heap.size, 7, none⟩)) rfl HS (by as_aux_lemma => kernel_rfl) rfl (fun _ _ _ h => h) (Or.inl ⟨by rfl, ?_⟩) HC0 ?_
        · intro u hC
          go_simp
        try simp only [Act.put, setIfInBounds_toArray, set_cons_zero, set_cons_succ]
        refine wpHl.tk0 (i := 1) (d := some 22) (v := .slice (some ⟨bk, off, none⟩) n cap) rfl HS (by as_aux_lemma => kernel_rfl) rfl (fun _ _ _ h => h) (Or.inl ⟨by rfl, ?_⟩) HC0 ?_
        · intro u hC
          have z1 := hC.1
          go_simp
        try simp only [Act.put, setIfInBounds_toArray, set_cons_zero, set_cons_succ]
        refine wpHl.tk0 (i := 2) (d := some 23) (v := .int .i64 (j : Int)) rfl HS (by as_aux_lemma => kernel_rfl) rfl (fun _ _ _ h => h) (Or.inl ⟨by rfl, ?_⟩) HC0 ?_
        · intro u hC
          go_simp
        try simp only [Act.put, setIfInBounds_toArray, set_cons_zero, set_cons_succ]
        have hpe := HP1.out
        refine wpHl.tk0 (i := 3) (d := some 24) (v := .pointer (some ⟨bk, p1, none⟩)) rfl HS (by as_aux_lemma => kernel_rfl) rfl (fun _ _ _ h => h) (Or.inl ⟨by rfl, ?_⟩) HC0 ?_
        · intro u hC
          go_simp
        try simp only [Act.put, setIfInBounds_toArray, set_cons_zero, set_cons_succ]
        clear hpe
        refine wpHl.tk0 (i := 4) (d := some 25) (v := ck.V) rfl HS (by as_aux_lemma => kernel_rfl) rfl (fun _ _ _ h => h) (Or.inl ⟨by rfl, ?_⟩) HC0 ?_
        · intro u hC
          exact run_ldV rfl rfl hC.2
        try simp only [Act.put, setIfInBounds_toArray, set_cons_zero, set_cons_succ]
        refine wpHl.tk0 (i := 5) (d := some 26) (v := s) rfl HS (by as_aux_lemma => kernel_rfl) rfl (fun _ _ _ h => h) (Or.inl ⟨by rfl, ?_⟩) HC0 ?_
        · intro u hC
          go_simp
        try simp only [Act.put, setIfInBounds_toArray, set_cons_zero, set_cons_succ]
        refine wpHl.tk0 (i := 6) (d := some 27) (v := .int .i64 (j : Int)) rfl HS (by as_aux_lemma => kernel_rfl) rfl (fun _ _ _ h => h) (Or.inl ⟨by rfl, ?_⟩) HC0 ?_
        · intro u hC
          go_simp
        try simp only [Act.put, setIfInBounds_toArray, set_cons_zero, set_cons_succ]
        refine wpHl.one (i := 7) (by as_aux_lemma => kernel_rfl) rfl (fun K1 hK1 => ?_)
        obtain ⟨ub, hub⟩ : ∃ u, ua.alloc (.cells #[.int .i64 (j : Int)] 3) = u := ⟨_, rfl⟩
        have kb : Below ua.heap.size ua ub := by rw [← hub]; exact bel_new _ _
        have hcl : ub.cell? ((⟨ua.heap.size, 0, none⟩ : Addr).add 0) = some (.int .i64 (j : Int)) := by
          rw [← hub, Addr.add_mid]
          exact (cell_of_row _ ua.heap.size 0 _ _ _ (heap_alloc_new ua (.cells #[.int .i64 (j : Int)] 3))).trans rfl
        have hzu : ub.heap.size = ua.heap.size + 1 := by rw [← hub]; simp
        rw [if_pos (by rfl)]
        go_simp
        try rw [hub]
        have hIb := hIa.far kb
        have hebb : ub.heap[w.heap.size]? = W1.heap[w.heap.size]? := hIb.fx.block _ (by rw [HS1.out]; omega) HNE.out
        clear HC0
        have HC0 := HCC.out _ hIb.lo hebb
        refine hK1 _ _ ⟨fun _ => HC0, ?_⟩
        clear hK1 K1
        try simp only [Act.put, setIfInBounds_toArray, set_cons_zero, set_cons_succ]
        refine wpHl.one (i := 8) (by as_aux_lemma => kernel_rfl) rfl (fun K1 hK1 => ?_)
        rw [if_pos (by rfl)]
        have hz0 := HLO.out.size
        have hz1 := HK1.out.size
        have hz2 := hIb.fx.size
        obtain ⟨sn, uc, hrun, hown, hcs⟩ := run_api (w := ub) (base := W0.heap.size) (n := ps.length) (v := s) (ys := ps.map (Value.int .i64)) (z := (j : Int)) (ad := ⟨ua.heap.size, 0, none⟩) (c := 1) hIb.ow hcl (by have := HBK.out; omega) (by omega) 61
        refine wp_api (s := .tmp 26) (x := .tmp 28) (v := s) (va := .slice (some ⟨ua.heap.size, 0, none⟩) 1 1) rfl rfl rfl hrun ?_
        have hown2 : OwI W0 uc sn (ps ++ [(j : Int)]) := by
          unfold OwI
          rw [List.length_append, List.map_append]
          exact hown
        have hszc : ub.heap.size ≤ uc.heap.size := by rcases hcs with ⟨h, -⟩ | ⟨g, cap, -, -, -, h⟩ <;> exact h.size
        have hbc : ∀ k, k < ub.heap.size → s.ownBlock ≠ some k → uc.heap[k]? = ub.heap[k]? := fun k hk hs => by
          rcases hcs with ⟨hg, -⟩ | ⟨g, cap, -, e1, -, hg⟩
          · exact hg.block k hk (by simp)
          · exact hg.block k hk (fun e => hs (by rw [e1]; exact e.symm))
        have hloc : Below W0.heap.size W0 uc := by
          have h0 := hIb.lo
          rcases hcs with ⟨hg, -⟩ | ⟨g, cap, -, e1, -, hg⟩
          · exact ⟨hg.os.trans h0.os, hg.tape.trans h0.tape, hg.output.trans h0.output, Nat.le_trans h0.size hg.size, fun k hk => (hg.block k (by have := h0.size; omega) (by simp)).trans (h0.block k hk)⟩
          · exact ⟨hg.os.trans h0.os, hg.tape.trans h0.tape, hg.output.trans h0.output, Nat.le_trans h0.size hg.size, fun k hk => (hg.block k (by have := h0.size; omega) (fun e => by have := (HSB.out g (by rw [e1]; rfl)).1; cases e; omega)).trans (h0.block k hk)⟩
        have hebc : uc.heap[w.heap.size]? = W1.heap[w.heap.size]? := (hbc _ (by rw [HS1.out] at hz2; omega) HNE.out).trans hebb
        clear HC0
        have HC0 := HCC.out _ hloc hebc
        refine hK1 _ _ ⟨fun _ => HC0, ?_⟩
        clear hK1 K1
        try simp only [Act.put, setIfInBounds_toArray, set_cons_zero, set_cons_succ]
        refine wpHl.one (i := 9) (by as_aux_lemma => kernel_rfl) rfl (fun K1 hK1 => ?_)
        rw [if_pos (by rfl)]
        have CALL := HIH.out y HMK.out W0 uc ck.V sn (ps ++ [(j : Int)]) (show vpts y ≤ 1048576 from Nat.le_trans (kpts_mem HMK.out) (by have := vpts_eq x; have := (show vpts x ≤ 1048576 from HOK.out); omega)) HVK.out hloc hown2 (by rw [List.length_append]; exact HBK.out)
        refine wp_call_of (f := 41) (args := #[ck.V, sn]) (by kernel_rfl) ?_
        with_reducible refine CALL.mono ?_
        rintro e ud hR
        have hId := hIa.step kb hcs hR.I.lo hR.I.ow hR.I.fx
        have hebd : ud.heap[w.heap.size]? = W1.heap[w.heap.size]? := hId.fx.block _ (by rw [HS1.out]; omega) HNE.out
        clear HC0
        have HC0 := HCC.out _ hId.lo hebd
        rcases hr : ((preV (ps ++ [(j : Int)]) y).find? TW).map Prod.fst with _ | p
        · obtain rfl := hR.no hr
          refine hK1 (Act.put _ (some 30) _) _ ⟨fun _ => HC0, ?_⟩
          clear hK1 K1
          try simp only [Act.put, setIfInBounds_toArray, set_cons_zero, set_cons_succ]
          refine wpHl.tk0 (i := 10) (d := some 20) (v := .tuple #[.slice none 0 0, .bool false]) rfl HS (by as_aux_lemma => kernel_rfl) rfl (fun _ _ _ h => h) (Or.inl ⟨by rfl, ?_⟩) HC0 ?_
          · intro u hC
            go_simp
          try simp only [Act.put, setIfInBounds_toArray, set_cons_zero, set_cons_succ]
          refine wpHl.tk0 (i := 11) (d := some 31) (v := .slice none 0 0) rfl HS (by as_aux_lemma => kernel_rfl) rfl (fun _ _ _ h => h) (Or.inl ⟨by rfl, ?_⟩) HC0 ?_
          · intro u hC
            go_simp
          try simp only [Act.put, setIfInBounds_toArray, set_cons_zero, set_cons_succ]
          refine wpHl.tk0 (i := 12) (d := some 32) (v := .bool false) rfl HS (by as_aux_lemma => kernel_rfl) rfl (fun _ _ _ h => h) (Or.inl ⟨by rfl, ?_⟩) HC0 ?_
          · intro u hC
            go_simp
          try simp only [Act.put, setIfInBounds_toArray, set_cons_zero, set_cons_succ]
          refine wpHl.tk0 (i := 13) (d := some 7) (v := .slice none 0 0) rfl HS (by as_aux_lemma => kernel_rfl) rfl (fun _ _ _ h => h) (Or.inl ⟨by rfl, ?_⟩) HC0 ?_
          · intro u hC
            go_simp
          try simp only [Act.put, setIfInBounds_toArray, set_cons_zero, set_cons_succ]
          refine wpHl.tk0 (i := 14) (d := some 8) (v := .bool false) rfl HS (by as_aux_lemma => kernel_rfl) rfl (fun _ _ _ h => h) (Or.inl ⟨by rfl, ?_⟩) HC0 ?_
          · intro u hC
            go_simp
          try simp only [Act.put, setIfInBounds_toArray, set_cons_zero, set_cons_succ]
          refine wpHl.done (by as_aux_lemma => kernel_rfl) ?_ _
          have HI2 := hide hId
          have HF2 := hide (show ((preV ps x).find? TW).map Prod.fst = ((preK ps (j + 1) (x.kids.drop (j + 1))).find? TW).map Prod.fst from by
            rw [HF.out, HFK.out]
            have h0 : (preV (ps ++ [(j : Int)]) y).find? TW = none := by simpa using hr
            rw [h0]
            rfl)
          clear hR hr hId hebd HC0 HS hIa hIb hown hown2 hcs hbc hloc hebc hrun CALL kb hcl hzu hebb heb hz0 hz1 hz2 hszc kdr
          go_wp2
          go_roundw
          case rel => exact ⟨j + 1, by simp, by omega, HF2, HI2⟩
          case measure => simp [intOf]; omega
        · obtain ⟨s', rfl, hs'⟩ := hR.yes p hr
          refine hK1 (Act.put _ (some 30) _) _ ⟨fun _ => HC0, ?_⟩
          clear hK1 K1
          try simp only [Act.put, setIfInBounds_toArray, set_cons_zero, set_cons_succ]
          refine wpHl.tk0 (i := 10) (d := some 20) (v := .tuple #[s', .bool true]) rfl HS (by as_aux_lemma => kernel_rfl) rfl (fun _ _ _ h => h) (Or.inl ⟨by rfl, ?_⟩) HC0 ?_
          · intro u hC
            go_simp
          try simp only [Act.put, setIfInBounds_toArray, set_cons_zero, set_cons_succ]
          refine wpHl.tk0 (i := 11) (d := some 31) (v := s') rfl HS (by as_aux_lemma => kernel_rfl) rfl (fun _ _ _ h => h) (Or.inl ⟨by rfl, ?_⟩) HC0 ?_
          · intro u hC
            go_simp
          try simp only [Act.put, setIfInBounds_toArray, set_cons_zero, set_cons_succ]
          refine wpHl.tk0 (i := 12) (d := some 32) (v := .bool true) rfl HS (by as_aux_lemma => kernel_rfl) rfl (fun _ _ _ h => h) (Or.inl ⟨by rfl, ?_⟩) HC0 ?_
          · intro u hC
            go_simp
          try simp only [Act.put, setIfInBounds_toArray, set_cons_zero, set_cons_succ]
          refine wpHl.tk0 (i := 13) (d := some 7) (v := s') rfl HS (by as_aux_lemma => kernel_rfl) rfl (fun _ _ _ h => h) (Or.inl ⟨by rfl, ?_⟩) HC0 ?_
          · intro u hC
            go_simp
          try simp only [Act.put, setIfInBounds_toArray, set_cons_zero, set_cons_succ]
          refine wpHl.tk0 (i := 14) (d := some 8) (v := .bool true) rfl HS (by as_aux_lemma => kernel_rfl) rfl (fun _ _ _ h => h) (Or.inl ⟨by rfl, ?_⟩) HC0 ?_
          · intro u hC
            go_simp
          try simp only [Act.put, setIfInBounds_toArray, set_cons_zero, set_cons_succ]
          refine wpHl.done (by as_aux_lemma => kernel_rfl) ?_ _
          have HI2 := hide (hId.base HK1.out)
          have HS2 := hide hs'
          have HF2 := hide (show ((preV ps x).find? TW).map Prod.fst = some p from by
            rw [HF.out, HFK.out]
            obtain ⟨z, hz, hzp⟩ := Option.map_eq_some_iff.1 hr
            rw [hz]
            exact congrArg some hzp)
          clear hR hr hId hebd HC0 HS hIa hIb hown hown2 hcs hbc hloc hebc hrun CALL kb hcl hzu hebb heb hz0 hz1 hz2 hszc kdr hs'
          go_wp2
          go_ret2
          exact ⟨HI2.out, fun e => (by rw [HF2.out] at e; cases e), fun p' e => by rw [HF2.out] at e; cases e; exact ⟨s', rfl, HS2.out⟩⟩
      · have q1 : ¬ (j : Int) < (n : Int) := by omega
        have HI2 := hide (HI.out.base HK1.out)
        have HF2 := hide (show ((preV ps x).find? TW).map Prod.fst = none from by
          rw [HF.out, preK_end ps x.kids (by rw [← HZL.out, HN.out]; omega)]
          rfl)
        go_wp2
        go_ret2
        exact ⟨HI2.out, fun e => rfl, fun p' e => by rw [HF2.out] at e; cases e⟩
theorem rwrong_size : ∀ (N : Nat) (x : Va), SizeOf.sizeOf x ≤ N → FdOf 41 OkW TW x
  | 0, x, h => by cases x; simp at h
  | N + 1, x, h => rwrong_step fun y hy => rwrong_size N y (by have := Va.kid_lt hy; omega)
theorem rwrong_any {x : Va} : FdOf 41 OkW TW x := rwrong_size _ x (Nat.le_refl _)
def OkD (x : Va) : Prop := ∃ p, ∀ q ∈ preV p x, aloB q.2 = true
theorem pre_in {p : List Int} {xs : List Va} {q : List Int × Va} : ∀ i, i ≤ xs.length → q ∈ preK p i (xs.drop i) → q ∈ preK p 0 xs
  | 0, _, h => by simpa using h
  | i + 1, hi, h => pre_in i (by omega) (by rw [preK_at p xs (show i < xs.length by omega)]; exact List.mem_append_right _ h)
theorem okd_kid {x : Va} (h : OkD x) {i : Nat} (hi : i < x.kids.length) : OkD x.kids[i] := by
  obtain ⟨p, h⟩ := h
  refine ⟨p ++ [(i : Int)], fun q hq => h q ?_⟩
  rw [preV_eq]
  refine List.mem_cons_of_mem _ (pre_in i (by omega) ?_)
  rw [preK_at p x.kids hi]
  exact List.mem_append_left _ hq
theorem okd_mem {x y : Va} (h : OkD x) (hy : y ∈ x.kids) : OkD y := by
  obtain ⟨i, hi, rfl⟩ := List.getElem_of_mem hy
  exact okd_kid h hi
theorem okd_self {x : Va} (h : OkD x) : aloB x = true := by
  obtain ⟨p, h⟩ := h
  exact h (p, x) (by rw [preV_eq]; exact List.mem_cons_self)
set_option maxHeartbeats 16000000 in
set_option maxRecDepth 100000 in
theorem rdeep_step {x : Va} (ih : ∀ k ∈ x.kids, FdOf 43 OkD tooD k) : FdOf 43 OkD tooD x := by
  intro W0 w v s ps hok hv hlo how hbd
  obtain ⟨q, rfl, rfl, g⟩ := hv.cl
  obtain ⟨zs, hz1, hz2, hz3⟩ := g.2.2.cl
  obtain ⟨ao, cap, e7, hx⟩ := hz3
  rw [List.length_map] at e7 hx
  obtain ⟨W1, hW1⟩ : ∃ W1, w.alloc (.cells (clQ q).L.toArray 31) = W1 := ⟨_, rfl⟩
  obtain ⟨b1, k1, s1z⟩ := bx_box hW1 (hv.far hlo)
  have h7 : W1.cell? ⟨w.heap.size, 7, none⟩ = some (.slice ao zs.length cap) := by
    have := b1.row 7 (.slice (clQ q).ko (clQ q).kl (clQ q).kc) rfl
    have e : Value.slice (clQ q).ko (clQ q).kl (clQ q).kc = .slice ao zs.length cap := by
      show Value.slice (clS q.2.2).1 (clS q.2.2).2.1 (clS q.2.2).2.2 = _
      rw [e7]
      rfl
    rw [e] at this
    simpa using this
  have hsb : ∀ k, s.ownBlock = some k → W0.heap.size ≤ k ∧ k < w.heap.size := fun k hk => own_in how hk
  have hne : s.ownBlock ≠ some w.heap.size := fun e => by have := (hsb _ e).2; omega
  have HNE := hide hne
  have hzl : zs.length = q.1.kids.length := by rw [← hz1, List.length_map]
  have hnl : zs.length ≤ 1048577 := by have := knod_len q.1.kids; have := vnod_eq q.1; omega
  have HB1 := hide (fun (u : World) (hu : Below W1.heap.size W1 u) => b1.below hu)
  have I1 := hide (show WgI W0 W1 s ps W1 from ⟨below_trans hlo (k1.mono (by omega)), own_far how k1, BelX.refl _ _ _⟩)
  have HK1 := hide k1
  have HV := hide hv
  have HLO := hide hlo
  have HOW := hide how
  have HBD := hide hbd
  have HOK := hide hok
  have HIH := hide ih
  have HZ1 := hide hz1
  have HZ2 := hide hz2
  have HX := hide hx
  have H7 := hide h7
  have HS1 := hide s1z
  have HW1 := hide hW1
  have HSB := hide hsb
  have HZL := hide hzl
  have hal := True.intro
  have HAL := hide (fun (u : World) (hu : Below W1.heap.size W1 u) => rcont_any ((b1.below hu).rd))
  clear hW1 b1 k1 s1z h7 hv hlo how hbd hok ih hz1 hz2 hx e7 hsb hzl g hne
  generalize hc : clQ q = c at *
  clear hc
  generalize q.1 = x at *
  go_enter Tryz.func43, Tryz.ntmps43
  unfold Cl.V
  go_upto_region 1 with fail
  try rw [HW1.out]
  have K : Below W1.heap.size W1 W1 := Below.refl _ _
  go_wp2_with (first | (refine wpList_ldV rfl _ rfl (w.heap.size) 0 rfl c (HB1.out _ K).row ?_; try simp only [Act.put, setIfInBounds_toArray, set_cons_zero, set_cons_succ]))
  with_reducible refine (HAL.out _ K).mono ?_
  rintro e w2 ⟨rfl, hb⟩
  replace K := below_trans K hb
  clear hb HAL
  obtain ⟨po, pc, hs, -⟩ : ∃ po pc, s = .slice po ps.length pc ∧ True := by
    obtain ⟨po, pc, h, -⟩ := own_shp HOW.out
    exact ⟨po, pc, h, trivial⟩
  subst hs
  obtain ⟨cb, hcb⟩ : ∃ z, vcont x = z := ⟨_, rfl⟩
  rw [hcb]
  have HCB := hide hcb
  clear hcb
  cases cb with
  | false =>
    have HI2 := hide ((I1.out.far K).base HK1.out)
    clear K
    have hf := hide (show ((preV ps x).find? tooD).map Prod.fst = none by
      rw [preV_eq, al_leaf (okd_self HOK.out) HCB.out, preK, List.find?_cons]
      have : tooD (ps, x) = false := by unfold tooD; rw [HCB.out]; rfl
      rw [this]
      rfl)
    go_wp2
    go_ret2
    exact ⟨HI2.out, fun e => rfl, fun p' e => by rw [hf.out] at e; cases e⟩
  | true =>
    by_cases h128 : 128 ≤ ps.length
    · have q128 : (128 : Int) ≤ (ps.length : Int) := by omega
      have HI2 := hide ((I1.out.far K).base HK1.out)
      clear K
      have hf := hide (show ((preV ps x).find? tooD).map Prod.fst = some ps by
        rw [preV_eq, List.find?_cons]
        have : tooD (ps, x) = true := by unfold tooD; rw [HCB.out, decide_eq_true h128]; rfl
        rw [this]
        rfl)
      clear h128
      go_wp2
      go_ret2
      exact ⟨HI2.out, fun e => (by rw [hf.out] at e; cases e), fun p' e => by rw [hf.out] at e; cases e; exact ⟨_, rfl, HI2.out.ow⟩⟩
    · have q128 : ¬ (128 : Int) ≤ (ps.length : Int) := by omega
      have HTF := hide (show tooD (ps, x) = false by unfold tooD; rw [decide_eq_false h128, Bool.and_false])
      clear h128
      go_wp2_with fail
      obtain ⟨n, hn⟩ : ∃ n, zs.length = n := ⟨_, rfl⟩
      have HN := hide hn
      rw [hn] at H7 hnl
      clear hn
      go_loopw [6, 7, 8] (fun i p b wr => ∃ j : Nat, i = .int .i64 (j : Int) ∧ j ≤ n ∧ Hid (((preV ps x).find? tooD).map Prod.fst = ((preK ps j (x.kids.drop j)).find? tooD).map Prod.fst) ∧ Hid (WgI W0 W1 (Value.slice po ps.length pc) ps wr)) (fun i _ _ _ => n - (intOf i).toNat)
      case atStart => exact ⟨0, rfl, Nat.zero_le _, hide (by rw [preV_eq, List.find?_cons, HTF.out]; rfl), hide (I1.out.far K)⟩
      case round =>
        obtain ⟨j, rfl, hj, HF, HI⟩ := hrel
        have c7 : wr.cell? ⟨w.heap.size, 7, none⟩ = some (.slice ao n cap) := (HI.out.fx.cell (p := ⟨w.heap.size, 7, none⟩) (by show w.heap.size < _; rw [HS1.out]; omega) HNE.out).trans H7.out
        by_cases hjn : j < n
        · have q1 : (j : Int) < (n : Int) := by omega
          have q2 : (0 : Int) ≤ (j : Int) := by omega
          have q3 : IntKind.i64.wrap ((j : Int) + 1) = (j : Int) + 1 := by rw [IntKind.wrap_i64]; omega
          obtain ⟨bk, off, hao, hbl, hcc⟩ := HX.out (by rw [HN.out]; omega)
          subst hao
          have hjz : j < zs.length := by rw [HN.out]; exact hjn
          obtain ⟨zq, hzq⟩ : ∃ z, zs[j] = z := ⟨_, rfl⟩
          have hzm : zq ∈ zs := hzq ▸ List.getElem_mem _
          have hr := hcc j (clQ zq) (by rw [List.getElem?_map, List.getElem?_eq_getElem hjz, hzq]; rfl)
          have hjk : j < x.kids.length := by rw [← HZL.out]; exact hjz
          have hk : x.kids[j] = zq.1 := by
            have : (zs.map Prod.fst)[j]'(by rw [List.length_map]; exact hjz) = zq.1 := by rw [List.getElem_map, hzq]
            rw [← this]
            congr 1
            exact HZ1.out.symm
          have HFK := hide (find_kids (T := tooD) (ps := ps) hjk)
          rw [hk] at HFK
          have HMK := hide (show zq.1 ∈ x.kids by rw [← hk]; exact List.getElem_mem _)
          have HVK := hide (HZ2.out zq hzm).rd
          have HBK := hide (show ps.length + 1 + vnod zq.1 ≤ 1048577 by
            have h1 := knod_lt hjk
            rw [hk] at h1
            have := HBD.out
            omega)
          have HCC := hide (fun (u : World) (hu : Below W0.heap.size W0 u) (he : u.heap[w.heap.size]? = W1.heap[w.heap.size]?) => (show u.cell? ⟨w.heap.size, 7, none⟩ = some (.slice (some ⟨bk, off, none⟩) n cap) ∧ u.rangeAt bk (off + j * 8) (clQ zq).L from
            ⟨(World.cell?_of_block he).trans H7.out, Below.range hr hu hbl⟩))
          have HBKL := hide hbl
          clear hcc hzq hzm hr hbl hjz hjk hk
          generalize clQ zq = ck at *
          generalize zq.1 = y at *
          obtain ⟨p1, hp1⟩ : ∃ p, off + j * 8 = p := ⟨_, rfl⟩
          rw [hp1] at HCC
          have HP1 := hide hp1
          go_upto_region 8 with fail
          clear c7
          have hIa := HI.out.far (Below.refl wr.heap.size wr).drew
          have heb : wr.drew.heap[w.heap.size]? = W1.heap[w.heap.size]? := hIa.fx.block _ (by rw [HS1.out]; omega) HNE.out
          have HC0 := HCC.out _ hIa.lo heb
          refine wpHl.region0 (C := fun u => u.cell? ⟨w.heap.size, 7, none⟩ = some (.slice (some ⟨bk, off, none⟩) n cap) ∧ u.rangeAt bk p1 ck.L) (by kernel_rfl) (by kernel_rfl) (fun HS => ?_)
          have kdr : Below wr.heap.size wr wr.drew := (Below.refl _ _).drew
          generalize wr.drew = ua at *
          refine wpHl.tk0 (i := 0) (d := some 24) (v := .pointer (some ⟨w.heap.size, 7, none⟩)) rfl HS (by as_aux_lemma => kernel_rfl) rfl (fun _ _ _ h => h) (Or.inl ⟨by rfl, ?_⟩) HC0 ?_
          · intro u hC
            go_simp
          try simp only [Act.put, setIfInBounds_toArray, set_cons_zero, set_cons_succ]
          refine wpHl.tk0 (i := 1) (d := some 25) (v := .slice (some ⟨bk, off, none⟩) n cap) rfl HS (by as_aux_lemma => kernel_rfl) rfl (fun _ _ _ h => h) (Or.inl ⟨by rfl, ?_⟩) HC0 ?_
          · intro u hC
            have z1 := hC.1
            go_simp
          try simp only [Act.put, setIfInBounds_toArray, set_cons_zero, set_cons_succ]
          refine wpHl.tk0 (i := 2) (d := some 26) (v := .int .i64 (j : Int)) rfl HS (by as_aux_lemma => kernel_rfl) rfl (fun _ _ _ h => h) (Or.inl ⟨by rfl, ?_⟩) HC0 ?_
          · intro u hC
            go_simp
          try simp only [Act.put, setIfInBounds_toArray, set_cons_zero, set_cons_succ]
          have hpe := HP1.out
          refine wpHl.tk0 (i := 3) (d := some 27) (v := .pointer (some ⟨bk, p1, none⟩)) rfl HS (by as_aux_lemma => kernel_rfl) rfl (fun _ _ _ h => h) (Or.inl ⟨by rfl, ?_⟩) HC0 ?_
          · intro u hC
            go_simp
          try simp only [Act.put, setIfInBounds_toArray, set_cons_zero, set_cons_succ]
          clear hpe
          refine wpHl.tk0 (i := 4) (d := some 28) (v := ck.V) rfl HS (by as_aux_lemma => kernel_rfl) rfl (fun _ _ _ h => h) (Or.inl ⟨by rfl, ?_⟩) HC0 ?_
          · intro u hC
            exact run_ldV rfl rfl hC.2
          try simp only [Act.put, setIfInBounds_toArray, set_cons_zero, set_cons_succ]
          refine wpHl.tk0 (i := 5) (d := some 29) (v := (Value.slice po ps.length pc)) rfl HS (by as_aux_lemma => kernel_rfl) rfl (fun _ _ _ h => h) (Or.inl ⟨by rfl, ?_⟩) HC0 ?_
          · intro u hC
            go_simp
          try simp only [Act.put, setIfInBounds_toArray, set_cons_zero, set_cons_succ]
          refine wpHl.tk0 (i := 6) (d := some 30) (v := .int .i64 (j : Int)) rfl HS (by as_aux_lemma => kernel_rfl) rfl (fun _ _ _ h => h) (Or.inl ⟨by rfl, ?_⟩) HC0 ?_
          · intro u hC
            go_simp
          try simp only [Act.put, setIfInBounds_toArray, set_cons_zero, set_cons_succ]
          refine wpHl.one (i := 7) (by as_aux_lemma => kernel_rfl) rfl (fun K1 hK1 => ?_)
          obtain ⟨ub, hub⟩ : ∃ u, ua.alloc (.cells #[.int .i64 (j : Int)] 3) = u := ⟨_, rfl⟩
          have kb : Below ua.heap.size ua ub := by rw [← hub]; exact bel_new _ _
          have hcl : ub.cell? ((⟨ua.heap.size, 0, none⟩ : Addr).add 0) = some (.int .i64 (j : Int)) := by
            rw [← hub, Addr.add_mid]
            exact (cell_of_row _ ua.heap.size 0 _ _ _ (heap_alloc_new ua (.cells #[.int .i64 (j : Int)] 3))).trans rfl
          have hzu : ub.heap.size = ua.heap.size + 1 := by rw [← hub]; simp
          rw [if_pos (by rfl)]
          go_simp
          try rw [hub]
          have hIb := hIa.far kb
          have hebb : ub.heap[w.heap.size]? = W1.heap[w.heap.size]? := hIb.fx.block _ (by rw [HS1.out]; omega) HNE.out
          clear HC0
          have HC0 := HCC.out _ hIb.lo hebb
          refine hK1 _ _ ⟨fun _ => HC0, ?_⟩
          clear hK1 K1
          try simp only [Act.put, setIfInBounds_toArray, set_cons_zero, set_cons_succ]
          refine wpHl.one (i := 8) (by as_aux_lemma => kernel_rfl) rfl (fun K1 hK1 => ?_)
          rw [if_pos (by rfl)]
          have hz0 := HLO.out.size
          have hz1 := HK1.out.size
          have hz2 := hIb.fx.size
          obtain ⟨sn, uc, hrun, hown, hcs⟩ := run_api (w := ub) (base := W0.heap.size) (n := ps.length) (v := (Value.slice po ps.length pc)) (ys := ps.map (Value.int .i64)) (z := (j : Int)) (ad := ⟨ua.heap.size, 0, none⟩) (c := 1) hIb.ow hcl (by have := HBK.out; omega) (by omega) 61
          refine wp_api (s := .tmp 29) (x := .tmp 31) (v := (Value.slice po ps.length pc)) (va := .slice (some ⟨ua.heap.size, 0, none⟩) 1 1) rfl rfl rfl hrun ?_
          have hown2 : OwI W0 uc sn (ps ++ [(j : Int)]) := by
            unfold OwI
            rw [List.length_append, List.map_append]
            exact hown
          have hszc : ub.heap.size ≤ uc.heap.size := by rcases hcs with ⟨h, -⟩ | ⟨g, cap, -, -, -, h⟩ <;> exact h.size
          have hbc : ∀ k, k < ub.heap.size → (Value.slice po ps.length pc).ownBlock ≠ some k → uc.heap[k]? = ub.heap[k]? := fun k hk hs => by
            rcases hcs with ⟨hg, -⟩ | ⟨g, cap, -, e1, -, hg⟩
            · exact hg.block k hk (by simp)
            · exact hg.block k hk (fun e => hs (by rw [e1]; exact e.symm))
          have hloc : Below W0.heap.size W0 uc := by
            have h0 := hIb.lo
            rcases hcs with ⟨hg, -⟩ | ⟨g, cap, -, e1, -, hg⟩
            · exact ⟨hg.os.trans h0.os, hg.tape.trans h0.tape, hg.output.trans h0.output, Nat.le_trans h0.size hg.size, fun k hk => (hg.block k (by have := h0.size; omega) (by simp)).trans (h0.block k hk)⟩
            · exact ⟨hg.os.trans h0.os, hg.tape.trans h0.tape, hg.output.trans h0.output, Nat.le_trans h0.size hg.size, fun k hk => (hg.block k (by have := h0.size; omega) (fun e => by have := (HSB.out g (by rw [e1]; rfl)).1; cases e; omega)).trans (h0.block k hk)⟩
          have hebc : uc.heap[w.heap.size]? = W1.heap[w.heap.size]? := (hbc _ (by rw [HS1.out] at hz2; omega) HNE.out).trans hebb
          clear HC0
          have HC0 := HCC.out _ hloc hebc
          refine hK1 _ _ ⟨fun _ => HC0, ?_⟩
          clear hK1 K1
          try simp only [Act.put, setIfInBounds_toArray, set_cons_zero, set_cons_succ]
          refine wpHl.one (i := 9) (by as_aux_lemma => kernel_rfl) rfl (fun K1 hK1 => ?_)
          rw [if_pos (by rfl)]
          have CALL := HIH.out y HMK.out W0 uc ck.V sn (ps ++ [(j : Int)]) (okd_mem HOK.out HMK.out) HVK.out hloc hown2 (by rw [List.length_append]; exact HBK.out)
          refine wp_call_of (f := 43) (args := #[ck.V, sn]) (by kernel_rfl) ?_
          with_reducible refine CALL.mono ?_
          rintro e ud hR
          have hId := hIa.step kb hcs hR.I.lo hR.I.ow hR.I.fx
          have hebd : ud.heap[w.heap.size]? = W1.heap[w.heap.size]? := hId.fx.block _ (by rw [HS1.out]; omega) HNE.out
          clear HC0
          have HC0 := HCC.out _ hId.lo hebd
          rcases hr : ((preV (ps ++ [(j : Int)]) y).find? tooD).map Prod.fst with _ | p
          · obtain rfl := hR.no hr
            refine hK1 (Act.put _ (some 33) _) _ ⟨fun _ => HC0, ?_⟩
            clear hK1 K1
            try simp only [Act.put, setIfInBounds_toArray, set_cons_zero, set_cons_succ]
            refine wpHl.tk0 (i := 10) (d := some 23) (v := .tuple #[.slice none 0 0, .bool false]) rfl HS (by as_aux_lemma => kernel_rfl) rfl (fun _ _ _ h => h) (Or.inl ⟨by rfl, ?_⟩) HC0 ?_
            · intro u hC
              go_simp
            try simp only [Act.put, setIfInBounds_toArray, set_cons_zero, set_cons_succ]
            refine wpHl.tk0 (i := 11) (d := some 34) (v := .slice none 0 0) rfl HS (by as_aux_lemma => kernel_rfl) rfl (fun _ _ _ h => h) (Or.inl ⟨by rfl, ?_⟩) HC0 ?_
            · intro u hC
              go_simp
            try simp only [Act.put, setIfInBounds_toArray, set_cons_zero, set_cons_succ]
            refine wpHl.tk0 (i := 12) (d := some 35) (v := .bool false) rfl HS (by as_aux_lemma => kernel_rfl) rfl (fun _ _ _ h => h) (Or.inl ⟨by rfl, ?_⟩) HC0 ?_
            · intro u hC
              go_simp
            try simp only [Act.put, setIfInBounds_toArray, set_cons_zero, set_cons_succ]
            refine wpHl.tk0 (i := 13) (d := some 7) (v := .slice none 0 0) rfl HS (by as_aux_lemma => kernel_rfl) rfl (fun _ _ _ h => h) (Or.inl ⟨by rfl, ?_⟩) HC0 ?_
            · intro u hC
              go_simp
            try simp only [Act.put, setIfInBounds_toArray, set_cons_zero, set_cons_succ]
            refine wpHl.tk0 (i := 14) (d := some 8) (v := .bool false) rfl HS (by as_aux_lemma => kernel_rfl) rfl (fun _ _ _ h => h) (Or.inl ⟨by rfl, ?_⟩) HC0 ?_
            · intro u hC
              go_simp
            try simp only [Act.put, setIfInBounds_toArray, set_cons_zero, set_cons_succ]
            refine wpHl.done (by as_aux_lemma => kernel_rfl) ?_ _
            have HI2 := hide hId
            have HF2 := hide (show ((preV ps x).find? tooD).map Prod.fst = ((preK ps (j + 1) (x.kids.drop (j + 1))).find? tooD).map Prod.fst from by
              rw [HF.out, HFK.out]
              have h0 : (preV (ps ++ [(j : Int)]) y).find? tooD = none := by simpa using hr
              rw [h0]
              rfl)
            clear hR hr hId hebd HC0 HS hIa hIb hown hown2 hcs hbc hloc hebc hrun CALL kb hcl hzu hebb heb hz0 hz1 hz2 hszc kdr
            go_wp2
            go_roundw
            case rel => exact ⟨j + 1, by simp, by omega, HF2, HI2⟩
            case measure => simp [intOf]; omega
          · obtain ⟨s', rfl, hs'⟩ := hR.yes p hr
            refine hK1 (Act.put _ (some 33) _) _ ⟨fun _ => HC0, ?_⟩
            clear hK1 K1
            try simp only [Act.put, setIfInBounds_toArray, set_cons_zero, set_cons_succ]
            refine wpHl.tk0 (i := 10) (d := some 23) (v := .tuple #[s', .bool true]) rfl HS (by as_aux_lemma => kernel_rfl) rfl (fun _ _ _ h => h) (Or.inl ⟨by rfl, ?_⟩) HC0 ?_
            · intro u hC
              go_simp
            try simp only [Act.put, setIfInBounds_toArray, set_cons_zero, set_cons_succ]
            refine wpHl.tk0 (i := 11) (d := some 34) (v := s') rfl HS (by as_aux_lemma => kernel_rfl) rfl (fun _ _ _ h => h) (Or.inl ⟨by rfl, ?_⟩) HC0 ?_
            · intro u hC
              go_simp
            try simp only [Act.put, setIfInBounds_toArray, set_cons_zero, set_cons_succ]
            refine wpHl.tk0 (i := 12) (d := some 35) (v := .bool true) rfl HS (by as_aux_lemma => kernel_rfl) rfl (fun _ _ _ h => h) (Or.inl ⟨by rfl, ?_⟩) HC0 ?_
            · intro u hC
              go_simp
            try simp only [Act.put, setIfInBounds_toArray, set_cons_zero, set_cons_succ]
            refine wpHl.tk0 (i := 13) (d := some 7) (v := s') rfl HS (by as_aux_lemma => kernel_rfl) rfl (fun _ _ _ h => h) (Or.inl ⟨by rfl, ?_⟩) HC0 ?_
            · intro u hC
              go_simp
            try simp only [Act.put, setIfInBounds_toArray, set_cons_zero, set_cons_succ]
            refine wpHl.tk0 (i := 14) (d := some 8) (v := .bool true) rfl HS (by as_aux_lemma => kernel_rfl) rfl (fun _ _ _ h => h) (Or.inl ⟨by rfl, ?_⟩) HC0 ?_
            · intro u hC
              go_simp
            try simp only [Act.put, setIfInBounds_toArray, set_cons_zero, set_cons_succ]
            refine wpHl.done (by as_aux_lemma => kernel_rfl) ?_ _
            have HI2 := hide (hId.base HK1.out)
            have HS2 := hide hs'
            have HF2 := hide (show ((preV ps x).find? tooD).map Prod.fst = some p from by
              rw [HF.out, HFK.out]
              obtain ⟨z, hz, hzp⟩ := Option.map_eq_some_iff.1 hr
              rw [hz]
              exact congrArg some hzp)
            clear hR hr hId hebd HC0 HS hIa hIb hown hown2 hcs hbc hloc hebc hrun CALL kb hcl hzu hebb heb hz0 hz1 hz2 hszc kdr hs'
            go_wp2
            go_ret2
            exact ⟨HI2.out, fun e => (by rw [HF2.out] at e; cases e), fun p' e => by rw [HF2.out] at e; cases e; exact ⟨s', rfl, HS2.out⟩⟩
        · have q1 : ¬ (j : Int) < (n : Int) := by omega
          have HI2 := hide (HI.out.base HK1.out)
          have HF2 := hide (show ((preV ps x).find? tooD).map Prod.fst = none from by
            rw [HF.out, preK_end ps x.kids (by rw [← HZL.out, HN.out]; omega)]
            rfl)
          go_wp2
          go_ret2
          exact ⟨HI2.out, fun e => rfl, fun p' e => by rw [HF2.out] at e; cases e⟩
theorem rdeep_size : ∀ (N : Nat) (x : Va), SizeOf.sizeOf x ≤ N → FdOf 43 OkD tooD x
  | 0, x, h => by cases x; simp at h
  | N + 1, x, h => rdeep_step fun y hy => rdeep_size N y (by have := Va.kid_lt hy; omega)
theorem rdeep_any {x : Va} : FdOf 43 OkD tooD x := rdeep_size _ x (Nat.le_refl _)
theorem cells3T {u : World} {b : Nat} {a0 a1 a2 : Value} {t : TypeId} (h : u.heap[b]? = some (.cells #[a0, a1, a2] t (0, 0))) :
    u.cell? ⟨b, 0, none⟩ = some a0 ∧ u.cell? ⟨b, 1, none⟩ = some a1 ∧ u.cell? ⟨b, 2, none⟩ = some a2 ∧ u.frozen? ⟨b, 0, none⟩ = false ∧ u.frozen? ⟨b, 1, none⟩ = false ∧ u.frozen? ⟨b, 2, none⟩ = false := by
  refine ⟨?_, ?_, ?_, ?_, ?_, ?_⟩ <;> simp [World.cell?, World.frozen?, h]
theorem put3_below {B b : Nat} {w w4 : World} {v0 v1 v2 : Value} (h : Below B w w4) (hb : B ≤ b) : Below B w (((w4.setCell ⟨b, 0, none⟩ v0).setCell ⟨b, 1, none⟩ v1).setCell ⟨b, 2, none⟩ v2) :=
  ((h.setCell (p := ⟨b, _, none⟩) hb v0).setCell (p := ⟨b, _, none⟩) hb v1).setCell (p := ⟨b, _, none⟩) hb v2
def fltK (i : Int) (s : ByteArray) : Value := .agg #[.int .i64 i, .int .i64 0, .string s]
def chkF : Option (Nat × List Int) → Value
  | none => fltK 0 ⟨#[]⟩
  | some (i, p) => fltK ((i : Int) + 1) (strOfNums (pathT p))
theorem pre_bound {x : Va} {T : List Int × Va → Bool} {p : List Int} (h : ((preV [] x).find? T).map Prod.fst = some p) : (∀ z ∈ p, 0 ≤ z ∧ z < vnod x) ∧ p.length < vnod x := by
  obtain ⟨q, hq, rfl⟩ := Option.map_eq_some_iff.1 h
  obtain ⟨r, h1, h2, h3⟩ := pre_mem _ x (Nat.le_refl _) [] q (List.mem_of_find?_eq_some hq)
  rw [h1, List.nil_append]
  exact ⟨h2, h3⟩
theorem chk_bad {x : Va} {p : List Int} (h : ((preV [] x).find? TW).map Prod.fst = some p) : chkV x = some (0, p) := by
  obtain ⟨q, hq, rfl⟩ := Option.map_eq_some_iff.1 h
  unfold chkV
  unfold TW at hq
  rw [hq]
theorem chk_none {x : Va} (h : ((preV [] x).find? TW).map Prod.fst = none) : chkV x = (((preV [] x).find? tooD).map Prod.fst).map fun p => (4, p) := by
  have h0 : (preV [] x).find? TW = none := by simpa using h
  unfold chkV
  unfold TW at h0
  rw [h0]
  simp [Option.map_map]
  rfl
theorem okd_of {x : Va} (h : ((preV [] x).find? TW).map Prod.fst = none) : OkD x := by
  have h0 : (preV [] x).find? TW = none := by simpa using h
  refine ⟨[], fun q hq => ?_⟩
  have := List.find?_eq_none.1 h0 q hq
  unfold TW at this
  simpa using this
set_option maxHeartbeats 16000000 in
set_option maxRecDepth 100000 in
theorem rcheck_any {w : World} {v : Value} {x : Va} (h : VaRd w v x) (hp : vpts x ≤ 1048576) :
    Calls Tryz.prog 15 #[v] w fun e w' => e = .returned (chkF (chkV x)) ∧ Below w.heap.size w w' := by
  obtain ⟨q, rfl, rfl, g⟩ := h.cl
  obtain ⟨W1, hW1⟩ : ∃ W1, w.alloc (.cells (clQ q).L.toArray 31) = W1 := ⟨_, rfl⟩
  obtain ⟨b1, k1, s1⟩ := bx_box hW1 h
  obtain ⟨W2, hW2⟩ : ∃ W2, W1.alloc (.cells #[.int .i64 0, .int .i64 0, .string ⟨#[]⟩] 42) = W2 := ⟨_, rfl⟩
  have k2 : Below W1.heap.size W1 W2 := by rw [← hW2]; exact bel_new _ _
  have HG := hide (show W2.heap[w.heap.size + 1]? = some (.cells #[.int .i64 0, .int .i64 0, .string ⟨#[]⟩] 42 (0, 0)) by
    rw [← hW2, ← s1]
    exact heap_alloc_new _ _)
  have hs2 : W2.heap.size = w.heap.size + 2 := by rw [← hW2]; simp; omega
  have HW12 := hide (show (w.alloc (.cells (clQ q).L.toArray 31)).alloc (.cells #[.int .i64 0, .int .i64 0, .string ⟨#[]⟩] 42) = W2 by rw [hW1, hW2])
  have HB1 := hide (fun (u : World) (hu : Below W2.heap.size W2 u) => (b1.below k2).below hu)
  have HK1 := hide (below_trans k1 k2)
  have HS2 := hide hs2
  have hvn := vnod_pts q.1
  have HVN := hide (show vnod q.1 ≤ 1048576 by omega)
  have HWR := hide (fun (u : World) (hu : Below W2.heap.size W2 u) => (show Calls Tryz.prog 41 #[(clQ q).V, .slice none 0 0] u fun e w' => FdR u u (.slice none 0 0) [] e w' (((preV [] q.1).find? TW).map Prod.fst) from
    rwrong_any u u _ _ [] hp ((b1.below k2).below hu).rd (Below.refl _ _) (World.ownsRow_nil _ _ _ _) (by simp; omega)))
  have HDR := hide (fun (u : World) (hu : Below W2.heap.size W2 u) (hok : OkD q.1) => (show Calls Tryz.prog 43 #[(clQ q).V, .slice none 0 0] u fun e w' => FdR u u (.slice none 0 0) [] e w' (((preV [] q.1).find? tooD).map Prod.fst) from
    rdeep_any u u _ _ [] hok ((b1.below k2).below hu).rd (Below.refl _ _) (World.ownsRow_nil _ _ _ _) (by simp; omega)))
  clear hW1 hW2 b1 k1 s1 k2 hs2 hvn h hp g
  generalize hc : clQ q = c at *
  clear hc
  generalize q.1 = x at *
  go_enter Tryz.func15, Tryz.ntmps15
  unfold Cl.V
  go_upto_region 1 with fail
  try rw [HW12.out]
  have K : Below W2.heap.size W2 W2 := Below.refl _ _
  go_wp2_with (first | (refine wpList_ldV rfl _ rfl (w.heap.size) 0 rfl c (HB1.out _ K).row ?_; try simp only [Act.put, setIfInBounds_toArray, set_cons_zero, set_cons_succ]))
  with_reducible refine (HWR.out _ K).mono ?_
  rintro e w3 hR
  replace K := below_trans K hR.I.lo
  rcases hr : ((preV [] x).find? TW).map Prod.fst with _ | p
  rotate_left
  · skip
    obtain ⟨s', rfl, hs'⟩ := hR.yes p hr
    have hbd := pre_bound hr
    have HPA := hide (rpath_any (own_rdi rfl hs') (fun z hz => ⟨(hbd.1 z hz).1, by have := (hbd.1 z hz).2; have := HVN.out; omega⟩) (by have := hbd.2; have := HVN.out; omega))
    have HCV := hide (show chkV x = some (0, p) from chk_bad hr)
    clear hR hs' hbd
    go_wp2_with fail
    with_reducible refine HPA.out.mono ?_
    rintro e w5 ⟨rfl, hb⟩
    have K5 := below_trans K hb
    obtain ⟨c0, c1, c2, f0, f1, f2⟩ := cells3T ((K5.block _ (by rw [HS2.out]; omega)).trans HG.out)
    have KZ := hide (put3_below (b := w.heap.size + 1) (v0 := .int .i64 1) (v1 := .int .i64 0) (v2 := .string (strOfNums (pathT p))) (HK1.out.trans (K5.mono HK1.out.size)) (by omega))
    clear hb K K5 HPA
    go_wp2
    refine bodyPost_ret (v := fltK 1 (strOfNums (pathT p))) ?_ rfl ?_
    · rw [results_cellT rfl]
      go_simp
      rfl
    · exact ⟨by rw [HCV.out]; rfl, KZ.out⟩
  obtain rfl := hR.no hr
  have HC0 := hide (chk_none hr)
  have HOD := hide (okd_of hr)
  clear hR hr
  go_wp2_with (first | (refine wpList_ldV rfl _ rfl (w.heap.size) 0 rfl c (HB1.out _ K).row ?_; try simp only [Act.put, setIfInBounds_toArray, set_cons_zero, set_cons_succ]))
  with_reducible refine (HDR.out _ K HOD.out).mono ?_
  rintro e w4 hR
  replace K := below_trans K hR.I.lo
  rcases hr : ((preV [] x).find? tooD).map Prod.fst with _ | p
  rotate_left
  · skip
    obtain ⟨s', rfl, hs'⟩ := hR.yes p hr
    have hbd := pre_bound hr
    have HPA := hide (rpath_any (own_rdi rfl hs') (fun z hz => ⟨(hbd.1 z hz).1, by have := (hbd.1 z hz).2; have := HVN.out; omega⟩) (by have := hbd.2; have := HVN.out; omega))
    have HCV := hide (show chkV x = some (4, p) from by rw [HC0.out, hr]; rfl)
    clear hR hs' hbd
    go_wp2_with fail
    with_reducible refine HPA.out.mono ?_
    rintro e w5 ⟨rfl, hb⟩
    have K5 := below_trans K hb
    obtain ⟨c0, c1, c2, f0, f1, f2⟩ := cells3T ((K5.block _ (by rw [HS2.out]; omega)).trans HG.out)
    have KZ := hide (put3_below (b := w.heap.size + 1) (v0 := .int .i64 5) (v1 := .int .i64 0) (v2 := .string (strOfNums (pathT p))) (HK1.out.trans (K5.mono HK1.out.size)) (by omega))
    clear hb K K5 HPA
    go_wp2
    refine bodyPost_ret (v := fltK 5 (strOfNums (pathT p))) ?_ rfl ?_
    · rw [results_cellT rfl]
      go_simp
      rfl
    · exact ⟨by rw [HCV.out]; rfl, KZ.out⟩
  obtain rfl := hR.no hr
  have HCV := hide (show chkV x = none by rw [HC0.out, hr]; rfl)
  obtain ⟨c0, c1, c2, f0, f1, f2⟩ := cells3T ((K.block _ (by rw [HS2.out]; omega)).trans HG.out)
  have KZ := hide (put3_below (b := w.heap.size + 1) (v0 := .int .i64 0) (v1 := .int .i64 0) (v2 := .string ⟨#[]⟩) (HK1.out.trans (K.mono HK1.out.size)) (by omega))
  clear hR K
  go_wp2
  refine bodyPost_ret (v := fltK 0 ⟨#[]⟩) ?_ rfl ?_
  · rw [results_cellT rfl]
    go_simp
    rfl
  · exact ⟨by rw [HCV.out]; rfl, KZ.out⟩
noncomputable def goodB (x : Va) : Bool := (chkV x).isNone
theorem field0_flt (a b c : Value) (w : World) : (Instr.field 42 (.agg #[a, b, c]) 0).run Tryz.prog w = .ok a w := by kernel_rfl
set_option maxHeartbeats 4000000 in
set_option maxRecDepth 100000 in
theorem rgood_any {w : World} {v : Value} {x : Va} (h : VaRd w v x) (hp : vpts x ≤ 1048576) :
    Calls Tryz.prog 22 #[v] w fun e w' => e = .returned (.bool (goodB x)) ∧ Below w.heap.size w w' := by
  obtain ⟨q, rfl, rfl, g⟩ := h.cl
  obtain ⟨W1, hW1⟩ : ∃ W1, w.alloc (.cells (clQ q).L.toArray 31) = W1 := ⟨_, rfl⟩
  obtain ⟨b1, k1, s1⟩ := bx_box hW1 h
  have HB1 := hide (fun (u : World) (hu : Below W1.heap.size W1 u) => b1.below hu)
  have HC := hide (rcheck_any b1.rd hp)
  have HK1 := hide k1
  have HW1 := hide hW1
  obtain ⟨G, hG⟩ : ∃ z, goodB q.1 = z := ⟨_, rfl⟩
  rw [hG]
  obtain ⟨r, hr⟩ : ∃ z, chkV q.1 = z := ⟨_, rfl⟩
  have hgr : r.isNone = G := by rw [← hG, ← hr]; rfl
  rw [hr] at HC
  have HGR := hide hgr
  clear hW1 b1 k1 s1 h hp g hG hr hgr
  generalize hc : clQ q = c at *
  clear hc
  generalize q.1 = x at *
  go_enter Tryz.func22, Tryz.ntmps22
  unfold Cl.V
  go_upto_region 1 with fail
  try rw [HW1.out]
  have K : Below W1.heap.size W1 W1 := Below.refl _ _
  rcases r with _ | ⟨i, p⟩
  · rw [show chkF none = .agg #[.int .i64 0, .int .i64 0, .string ⟨#[]⟩] from rfl] at HC
    go_wp2_with (first | (refine wpList_ldV rfl _ rfl (w.heap.size) 0 rfl c (HB1.out _ K).row ?_; try simp only [Act.put, setIfInBounds_toArray, set_cons_zero, set_cons_succ]))
    with_reducible refine HC.out.mono ?_
    rintro e w2 ⟨rfl, hb⟩
    have hfl := field0_flt
    have HB2 := hide (HK1.out.trans (hb.mono HK1.out.size))
    clear hb HC K
    go_wp2
    go_ret
    exact ⟨by rw [← HGR.out]; rfl, HB2.out⟩
  · have hi : (((i : Int) + 1) == 0) = false := beq_eq_false_iff_ne.2 (by omega)
    rw [show chkF (some (i, p)) = .agg #[.int .i64 ((i : Int) + 1), .int .i64 0, .string (strOfNums (pathT p))] from rfl] at HC
    go_wp2_with (first | (refine wpList_ldV rfl _ rfl (w.heap.size) 0 rfl c (HB1.out _ K).row ?_; try simp only [Act.put, setIfInBounds_toArray, set_cons_zero, set_cons_succ]))
    with_reducible refine HC.out.mono ?_
    rintro e w2 ⟨rfl, hb⟩
    have hfl := field0_flt
    have HB2 := hide (HK1.out.trans (hb.mono HK1.out.size))
    clear hb HC K
    go_wp2
    go_ret
    exact ⟨by rw [← HGR.out]; rfl, HB2.out⟩
end Go.Proofs.YticmlelalbaalaaGreatDoor
namespace Go.Proofs.YticmlelalbaalaaGreatDoor
open Go.RowKit
set_option linter.unusedVariables false
set_option maxRecDepth 100000 in
theorem flB_c6 : ∀ u ∈ [0, 1, 2, 4, 16, 24], ∀ c1 c2 c3 c4 c5 c6, (bits .andNot .u8 (flB c1 c2 c3 c4 c5 c6) (u : Nat) == 0) = true → c6 = false := by decide
theorem alo_kids {x : Va} (h : aloB x = true) (hc : vcont x = false) : x.kids = [] := by
  unfold aloB at h
  rw [Bool.and_eq_true, Bool.and_eq_true, Bool.and_eq_true, decide_eq_true_iff, decide_eq_true_iff] at h
  obtain ⟨⟨k0, k1⟩, hb, -⟩ := h
  have key : ∀ u ∈ [0, 1, 2, 4, 16, 24], (usTab.getD x.kind.toNat 0) = u → x.kids = [] := by
    intro u hu e
    rw [e] at hb
    unfold flV flr at hb
    have := flB_c6 u hu _ _ _ _ _ _ hb
    rw [decide_eq_false_iff_not] at this
    exact List.length_eq_zero_iff.1 (by omega)
  unfold vcont at hc
  rw [Bool.or_eq_false_iff, Bool.or_eq_false_iff, beq_eq_false_iff_ne, beq_eq_false_iff_ne, beq_eq_false_iff_ne] at hc
  obtain ⟨⟨c7, c8⟩, c9⟩ := hc
  have hk : x.kind = 1 ∨ x.kind = 2 ∨ x.kind = 3 ∨ x.kind = 4 ∨ x.kind = 5 ∨ x.kind = 6 ∨ x.kind = 10 ∨ x.kind = 11 := by omega
  rcases hk with e | e | e | e | e | e | e | e <;> exact key _ (by rw [e]; decide) rfl
end Go.Proofs.YticmlelalbaalaaGreatDoor
namespace Go.Proofs.YticmlelalbaalaaGreatDoor
open List (setIfInBounds_toArray set_cons_zero set_cons_succ)
open Go.RowKit Go.Shelf
set_option linter.unusedVariables false
set_option linter.unusedSimpArgs false
theorem preK_all {P : List Int × Va → Prop} {p : List Int} : ∀ (xs : List Va) (i : Nat), (∀ q ∈ preK p i xs, P q) ↔ ∀ (j : Nat) (h : j < xs.length), ∀ q ∈ preV (p ++ [((i + j : Nat) : Int)]) xs[j], P q
  | [], i => by simp [preK]
  | y :: ys, i => by
    rw [preK]
    constructor
    · intro h j hj q hq
      cases j with
      | zero => exact h q (List.mem_append_left _ hq)
      | succ j =>
        have e : i + (j + 1) = i + 1 + j := by omega
        rw [e] at hq
        exact (preK_all ys (i + 1)).1 (fun q hq => h q (List.mem_append_right _ hq)) j (by simpa using hj) q hq
    · intro h q hq
      rcases List.mem_append.1 hq with h1 | h1
      · exact h 0 (by simp) q h1
      · refine (preK_all ys (i + 1)).2 (fun j hj q hq => ?_) q h1
        have e : i + (j + 1) = i + 1 + j := by omega
        exact h (j + 1) (by simpa using hj) q (by rw [e]; exact hq)
theorem alo_all : ∀ (N : Nat) (x : Va), SizeOf.sizeOf x ≤ N → OkD x → ∀ p, ∀ q ∈ preV p x, aloB q.2 = true
  | 0, x, hN, _, _, _, _ => by cases x; simp at hN
  | N + 1, x, hN, ok, p, q, hq => by
    rw [preV_eq] at hq
    rcases List.mem_cons.1 hq with h | h
    · rw [h]; exact okd_self ok
    · exact (preK_all x.kids 0).2 (fun j hj q hq => alo_all N _ (by have := Va.kid_lt (List.getElem_mem hj); omega) (okd_kid ok hj) _ q hq) q h
theorem kdep_le {m : Int} (hm : 0 ≤ m) : ∀ (xs : List Va), kdep xs ≤ m ↔ ∀ (j : Nat) (h : j < xs.length), vdep xs[j] ≤ m
  | [] => by simp [kdep, hm]
  | y :: ys => by
    have ih := kdep_le hm ys
    rw [kdep, Int.max_le, ih]
    constructor
    · rintro ⟨h1, h2⟩ j hj
      cases j with
      | zero => exact h1
      | succ j => exact h2 j (by simpa using hj)
    · intro h
      exact ⟨h 0 (by simp), fun j hj => h (j + 1) (by simpa using hj)⟩
theorem dep_iff : ∀ (N : Nat) (x : Va), SizeOf.sizeOf x ≤ N → OkD x → ∀ p, (∀ q ∈ preV p x, tooD q = false) ↔ (vdep x = 0 ∨ (p.length : Int) + vdep x ≤ 128)
  | 0, x, hN, _, _ => by cases x; simp at hN
  | N + 1, x, hN, ok, p => by
    rw [preV_eq, vdep_eq]
    cases hc : vcont x with
    | false =>
      rw [alo_kids (okd_self ok) hc, preK]
      simp [tooD, hc]
    | true =>
      have hk := kdep_bound (xs := x.kids) fun a _ => vdep_bound a
      have key : (∀ q ∈ preK p 0 x.kids, tooD q = false) ↔ ∀ (j : Nat) (h : j < x.kids.length), vdep x.kids[j] = 0 ∨ (p.length : Int) + 1 + vdep x.kids[j] ≤ 128 := by
        rw [preK_all]
        constructor
        · intro h j hj
          have := (dep_iff N _ (by have := Va.kid_lt (List.getElem_mem hj); omega) (okd_kid ok hj) _).1 (h j hj)
          rw [List.length_append] at this
          simpa using this
        · intro h j hj
          refine (dep_iff N _ (by have := Va.kid_lt (List.getElem_mem hj); omega) (okd_kid ok hj) _).2 ?_
          have := h j hj
          rw [List.length_append]
          simpa using this
      rw [if_pos rfl]
      constructor
      · intro h
        have h1 := h (p, x) List.mem_cons_self
        have h2 := key.1 fun q hq => h q (List.mem_cons_of_mem _ hq)
        have h3 : p.length < 128 := by
          unfold tooD at h1
          rw [hc, Bool.true_and, decide_eq_false_iff_not] at h1
          simp only at h1
          omega
        have h4 := (kdep_le (m := 127 - (p.length : Int)) (by omega) x.kids).2 fun j hj => by have := h2 j hj; omega
        exact Or.inr (by omega)
      · intro h
        have h4 : (p.length : Int) + (kdep x.kids + 1) ≤ 128 := by omega
        intro q hq
        rcases List.mem_cons.1 hq with e | e
        · rw [e]
          unfold tooD
          rw [hc, Bool.true_and, decide_eq_false_iff_not]
          simp only
          omega
        · refine key.2 (fun j hj => ?_) q e
          have := (kdep_le (m := 127 - (p.length : Int)) (by omega) x.kids).1 (by omega) j hj
          exact Or.inr (by omega)
theorem chk_ok {x : Va} (ok : OkD x) : (vdep x ≤ 128 → chkV x = none) ∧ (128 < vdep x → ∃ p, chkV x = some (4, p)) := by
  have h0 : (preV [] x).find? (fun q => !aloB q.2) = none := List.find?_eq_none.2 fun q hq => by rw [alo_all _ x (Nat.le_refl _) ok [] q hq]; simp
  have e : chkV x = ((preV [] x).find? tooD).map fun q => (4, q.1) := by unfold chkV; rw [h0]
  have hd := dep_iff _ x (Nat.le_refl _) ok []
  rw [e]
  constructor
  · intro h
    rw [List.find?_eq_none.2 fun q hq => by rw [hd.2 (Or.inr (by simpa using h)) q hq]; simp]
    rfl
  · intro h
    cases hf : (preV [] x).find? tooD with
    | some q => exact ⟨q.1, rfl⟩
    | none =>
      have := hd.1 fun q hq => by have := List.find?_eq_none.1 hf q hq; simpa using this
      simp at this
      omega
theorem code_chk {W : World} {B : Nat} {a : Nat → Addr} {u : Value} {r : Option (Nat × List Int)} (hS : Snt W a) (hH : Hnd W) (h : ErW B W u (evA a) r) (hr : ∀ i p, r = some (i, p) → i < 11) :
    Calls Tryz.prog 16 #[u] W fun e w' => e = .returned (.int .i64 (match r with | none => 0 | some (i, _) => (i : Int) + 1)) ∧ Below W.heap.size W w' := by
  cases r with
  | none =>
    have h' : u = .nilIface := h
    subst h'
    exact hcode_nil.mono fun e w' h => ⟨h.1, by rw [h.2]; exact Below.refl _ _⟩
  | some q =>
    obtain ⟨g, h1, rfl, h3⟩ := h
    exact fpcode (k := 0) hS hH (hr _ _ rfl) h3
theorem cl_slice {w : World} {c : Cl} {x : Va} (h : VaRd w c.V x) : VaSl w (.slice c.ko c.kl c.kc) x.kids ∧ c.kl = x.kids.length := by
  obtain ⟨⟨vm, vk, e, -, hk⟩, -⟩ := h
  have e7 : Value.slice c.ko c.kl c.kc = vk := by
    have := congrArg (fun v => match v with | .agg xs => xs[7]? | _ => none) e
    simpa [Cl.V, Cl.L, vaV] using this
  rw [← e7] at hk
  obtain ⟨ao, cap, e8, -⟩ := hk.len
  injection e8 with _ e9 _
  exact ⟨hk, e9⟩
def NdAt : List Int → Va → Va → Prop
  | [], x, y => x = y
  | k :: p, x, y => 0 ≤ k ∧ ∃ h : k.toNat < x.kids.length, NdAt p x.kids[k.toNat] y
theorem lb_mid (A : List Int) (c : Int) (B : List Int) : Nt.lb (A ++ c :: B) A.length = c := by simp [Nt.lb]
theorem pathT_cons (k : Int) (p : List Int) : pathT (k :: p) = 47 :: (itoL k ++ pathT p) := by simp [pathT]
theorem nk_index {al : List Int} {s : ByteArray} (hs : s = strOfNums al) (hb : Byt al) {i : Nat} (h1 : i < al.length) (W : World) :
    (Instr.index 9 (.string s) (.int .i64 i)).run Tryz.prog W = .ok (.int .u8 (Nt.lb al i)) W := by
  subst hs
  have hsz : (strOfNums al).size = al.length := strOfNums_size al
  rw [run_index_string W 9 _ .i64 i Tryz.underlying9, dif_pos ⟨by omega, by omega⟩, utxt_at (by omega) (fun x hx => by have := hb x hx; omega)]
  rfl
theorem dgv_le {xs ys : List Int} (h : Dq (xs ++ ys)) : dgv xs ≤ dgv (xs ++ ys) := by
  have h1 := (dgv_range (xs := xs) fun z hz => h z (List.mem_append_left _ hz)).1
  have h2 := (dgv_range (xs := ys) fun z hz => h z (List.mem_append_right _ hz)).1
  have h3 : 0 < tn ys.length := tn_pos _
  have h4 := Int.mul_le_mul_of_nonneg_left (show (1 : Int) ≤ tn ys.length by omega) h1
  rw [dgv_append]
  omega
set_option maxHeartbeats 16000000 in
set_option maxRecDepth 100000 in
theorem node14 {w : World} {x y : Va} {v : Value} {P : List Int} {s : ByteArray} (h : VaRd w v x) (hp : vpts x ≤ 1048576) (hP : NdAt P x y) (hs : s = strOfNums (pathT P)) (hl : (pathT P).length ≤ 4611686018427387904) :
    Calls Tryz.prog 28 #[v, .string s] w fun e w' => (∃ c : Cl, e = .returned (.tuple #[c.V, .bool true]) ∧ VaRd w c.V y) ∧ Below w.heap.size w w' := by
  obtain ⟨q1, rfl, rfl, g1⟩ := h.cl
  have hsz : s.size = (pathT P).length := by rw [hs, strOfNums_size]
  have HIX := hide (fun (A B : List Int) (c : Int) (e : pathT P = A ++ c :: B) (W : World) => (show (Instr.index 9 (.string s) (.int .i64 (A.length : Nat))).run Tryz.prog W = .ok (.int .u8 c) W from by
    have := nk_index hs (pathT_byt P) (i := A.length) (by rw [e]; simp) W
    rw [e, lb_mid] at this
    exact this))
  obtain ⟨T, hT⟩ : ∃ T, (pathT P).length = T := ⟨_, rfl⟩
  rw [hT] at hsz hl
  have HT := hide hT
  obtain ⟨W1, hW1⟩ : ∃ W1, w.alloc (.cells (clQ q1).L.toArray 31) = W1 := ⟨_, rfl⟩
  obtain ⟨b1, k1, s1⟩ := bx_box hW1 h
  obtain ⟨W2, hW2⟩ : ∃ W2, W1.alloc (.cells #[.int .i8 0, .int .u64 0, .bool false, .slice none 0 0, .int .u64 0, .int .i8 0, .string ⟨#[]⟩, .slice none 0 0] 31) = W2 := ⟨_, rfl⟩
  have k2 : Below W1.heap.size W1 W2 := by rw [← hW2]; exact bel_new _ _
  have HR := hide (show W2.rangeAt w.heap.size 0 (clQ q1).L ∧ W2.there w.heap.size 0 8 ∧ W2.there (w.heap.size + 1) 0 8 from ⟨(b1.below k2).row, by
    rw [← hW2, ← hW1]
    exact World.there_alloc (there_new w 31 _ (by simp [Cl.L])) _, by
    rw [← hW2, ← s1]
    exact there_new W1 31 _ (by decide)⟩)
  have HK := hide (below_trans k1 k2)
  have HV := hide h
  have HP := hide hP
  have HW12 := hide (show (w.alloc (.cells (clQ q1).L.toArray 31)).alloc (.cells #[.int .i8 0, .int .u64 0, .bool false, .slice none 0 0, .int .u64 0, .int .i8 0, .string ⟨#[]⟩, .slice none 0 0] 31) = W2 by rw [hW1, hW2])
  have HPX := hide hp
  clear hW1 hW2 g1 b1 k1 k2 h s1 hp hP hT hs
  generalize hc1 : clQ q1 = c1 at *
  clear hc1
  generalize q1.1 = x at *
  clear q1
  go_enter Tryz.func28, Tryz.ntmps28
  unfold Cl.V
  go_upto_region 1 with fail
  try rw [HW12.out]
  go_wp2
  go_loopw [6] (fun iv wr => ∃ (p1 p2 : List Int) (c : Cl) (z : Va), iv = .int .i64 ((pathT p1).length : Nat) ∧ Hid (P = p1 ++ p2) ∧ Hid (NdAt p2 z y) ∧ Hid (VaRd w c.V z) ∧ Hid (vpts z ≤ 1048576) ∧ Hid (wr.rangeAt w.heap.size 0 c.L ∧ wr.there w.heap.size 0 8 ∧ wr.there (w.heap.size + 1) 0 8) ∧ Hid (Below w.heap.size w wr)) (fun iv _ => T + 1 - (intOf iv).toNat)
  case atStart => exact ⟨[], P, c1, x, rfl, hide rfl, HP, HV, HPX, HR, HK⟩
  case round =>
    obtain ⟨p1, p2, c, z, rfl, HE, HN, HZ, HB, HRW, HBW⟩ := hrel
    cases p2 with
    | nil =>
      have e : P = p1 := by rw [HE.out]; simp
      have hI : (pathT p1).length = T := by rw [← e]; exact HT.out
      rw [hI]
      have q1 : ¬ (T : Int) < (T : Int) := by omega
      have hzy : z = y := HN.out
      subst hzy
      obtain ⟨W9, hW9⟩ : ∃ W9, wr.setCells (w.heap.size + 1) 0 c.L = W9 := ⟨_, rfl⟩
      have hr9 : W9.rangeAt (w.heap.size + 1) 0 c.L := by rw [← hW9]; exact World.rangeAt_setCells_same _ _ _ _ HRW.out.2.2
      have K9 : Below w.heap.size w W9 := by rw [← hW9]; exact below_cells HBW.out (by omega) _ _
      have HW9 := hide hW9
      have HK9 := hide K9
      clear hW9 K9
      go_wp2_with (first | (refine wpList_ldV rfl _ rfl (w.heap.size) 0 rfl c HRW.out.1 ?_; try simp only [Act.put, setIfInBounds_toArray, set_cons_zero, set_cons_succ]) | (refine wpList_stV rfl _ _ rfl (w.heap.size + 1) 0 rfl c rfl HRW.out.2.2 ?_; rw [HW9.out]; try simp only [Act.put, setIfInBounds_toArray, set_cons_zero, set_cons_succ]))
      have r0 := hr9 0 _ rfl
      have r1 := hr9 1 _ rfl
      have r2 := hr9 2 _ rfl
      have r3 := hr9 3 _ rfl
      have r4 := hr9 4 _ rfl
      have r5 := hr9 5 _ rfl
      have r6 := hr9 6 _ rfl
      have r7 := hr9 7 _ rfl
      simp only [Nat.zero_add] at r0 r1 r2 r3 r4 r5 r6 r7
      refine bodyPost_ret (v := .tuple #[.agg c.L.toArray, .bool true]) ?_ rfl ⟨⟨c, rfl, HZ.out⟩, HK9.out⟩
      rw [results_cell_tmp rfl]
      go_simp
      rfl
    | cons k p3 =>
      obtain ⟨k0, hk, hN3⟩ := HN.out
      have HN3 := hide hN3
      have ePT : pathT P = pathT p1 ++ 47 :: (itoL k ++ pathT p3) := by rw [HE.out, pathT_app, pathT_cons]
      have hds := ito_dstr k0
      have HDQ := hide hds.1
      have hlen : T = (pathT p1).length + 1 + (itoL k).length + (pathT p3).length := by
        have := congrArg List.length ePT
        rw [HT.out] at this
        simp at this
        omega
      have hdp := hds.2.1
      have hdv := hds.2.2.2
      have x0 := fun W => HIX.out _ _ _ ePT W
      have HMID := hide (fun (d1 d2 : List Int) (c' : Int) (e : itoL k = d1 ++ c' :: d2) (W : World) => (show (Instr.index 9 (.string s) (.int .i64 (((pathT p1).length + 1 + d1.length : Nat) : Int))).run Tryz.prog W = .ok (.int .u8 c') W from by
        have e2 : pathT P = (pathT p1 ++ 47 :: d1) ++ c' :: (d2 ++ pathT p3) := by rw [ePT, e]; simp
        have := HIX.out _ _ _ e2 W
        have e3 : (pathT p1 ++ 47 :: d1).length = (pathT p1).length + 1 + d1.length := by simp; omega
        rw [e3] at this
        exact this))
      have HEND := hide (fun (k2 : Int) (p4 : List Int) (e : p3 = k2 :: p4) (W : World) => (show (Instr.index 9 (.string s) (.int .i64 (((pathT p1).length + 1 + (itoL k).length : Nat) : Int))).run Tryz.prog W = .ok (.int .u8 47) W from by
        have e2 : pathT P = (pathT p1 ++ 47 :: itoL k) ++ 47 :: (itoL k2 ++ pathT p4) := by rw [ePT, e, pathT_cons]; simp
        have := HIX.out _ _ _ e2 W
        have e3 : (pathT p1 ++ 47 :: itoL k).length = (pathT p1).length + 1 + (itoL k).length := by simp; omega
        rw [e3] at this
        exact this))
      have HP1 := hide (show (pathT (p1 ++ [k])).length = (pathT p1).length + 1 + (itoL k).length by rw [pathT_app, pathT_one]; simp; omega)
      have HE2 := hide (show P = (p1 ++ [k]) ++ p3 by rw [HE.out]; simp)
      have hT3 : p3 = [] → (pathT p3).length = 0 := fun e => by rw [e]; rfl
      have hT4 : p3 ≠ [] → 0 < (pathT p3).length := fun e => by
        cases p3 with
        | nil => exact absurd rfl e
        | cons k2 p4 => rw [pathT_cons]; simp
      obtain ⟨I, hI⟩ : ∃ I, (pathT p1).length = I := ⟨_, rfl⟩
      obtain ⟨M, hM⟩ : ∃ M, itoL k = M := ⟨_, rfl⟩
      obtain ⟨Q, hQ⟩ : ∃ Q, (pathT p3).length = Q := ⟨_, rfl⟩
      rw [hI, hM, hQ] at hlen
      rw [hM] at hdp hdv HDQ HMID HP1 HEND
      rw [hI] at x0 HMID HP1 HEND ⊢
      rw [hQ] at hT3 hT4
      have hkk : k < 1048577 := by have h1 := kpts_len z.kids; have h2 := vpts_eq z; have := HB.out; omega
      have HDV := hide hdv
      clear hds ePT hI hM hQ hN3 hdv
      have q1 : (I : Int) < (T : Int) := by omega
      have q2 : (((I : Int) + 1) == (T : Int)) = false := beq_eq_false_iff_ne.2 (by omega)
      have w1 : IntKind.i64.wrap ((I : Int) + 1) = (I : Int) + 1 := by rw [IntKind.wrap_i64]; omega
      go_wp2
      clear x0 q1 q2 w1
      go_loopw [6, 7] (fun iv av wr' => ∃ d1 d2 : List Int, iv = .int .i64 ((I + 1 + d1.length : Nat) : Int) ∧ av = .int .i64 (dgv d1) ∧ Hid (M = d1 ++ d2) ∧ wr' = wr) (fun iv _ _ => T + 1 - (intOf iv).toNat)
      case atStart => exact ⟨[], M, by simp, by simp [dgv], hide rfl, rfl⟩
      case round =>
        obtain ⟨d1, d2, rfl, rfl, HM, rfl⟩ := hrel
        have hml : M.length = d1.length + d2.length := by rw [HM.out]; simp
        cases d2 with
        | cons cc d3 =>
          have hcc := HDQ.out cc (by rw [HM.out]; simp)
          have x1 := fun W => HMID.out d1 d3 cc HM.out W
          have hd0 := (dgv_range (xs := d1) fun z hz => HDQ.out z (by rw [HM.out]; exact List.mem_append_left _ hz)).1
          have hd1 : dgv d1 ≤ k := by
            have := dgv_le (xs := d1) (ys := cc :: d3) (by rw [← HM.out]; exact HDQ.out)
            rw [← HM.out, HDV.out] at this
            exact this
          have HSN := hide (dgv_snoc d1 cc)
          have HM2 := hide (show M = (d1 ++ [cc]) ++ d3 by rw [HM.out]; simp)
          have hL2 : (d1 ++ [cc]).length = d1.length + 1 := by simp
          obtain ⟨D, hD⟩ : ∃ D, dgv d1 = D := ⟨_, rfl⟩
          rw [hD] at hd0 hd1 HSN ⊢
          simp only [List.length_cons] at hml
          obtain ⟨J, hJ⟩ : ∃ J, I + 1 + d1.length = J := ⟨_, rfl⟩
          rw [hJ] at x1 ⊢
          have HL2 := hide (show I + 1 + (d1 ++ [cc]).length = J + 1 by omega)
          have hJT : J + 1 + d3.length + Q = T := by omega
          clear hD hJ hL2
          have a1 : (J : Int) < (T : Int) := by omega
          have a2 : (cc == 47) = false := beq_eq_false_iff_ne.2 (by omega)
          have a3 : ¬ cc < 48 := by omega
          have a4 : ¬ 57 < cc := by omega
          have a5 : ¬ 1073741824 < D := by omega
          have d3' : decide (cc < 48) = false := decide_eq_false a3
          have d4' : decide (57 < cc) = false := decide_eq_false a4
          have d5' : decide (1073741824 < D) = false := decide_eq_false a5
          have e1 : IntKind.u8.wrap (cc - 48) = cc - 48 := by rw [IntKind.wrap_u8]; omega
          have e2 : IntKind.i64.wrap (cc - 48) = cc - 48 := by rw [IntKind.wrap_i64]; omega
          have e3 : IntKind.i64.wrap (D * 10) = D * 10 := by rw [IntKind.wrap_i64]; omega
          have e4 : IntKind.i64.wrap (D * 10 + (cc - 48)) = D * 10 + (cc - 48) := by rw [IntKind.wrap_i64]; omega
          have e5 : IntKind.i64.wrap ((J : Int) + 1) = (J : Int) + 1 := by rw [IntKind.wrap_i64]; omega
          go_wp2
          go_roundw
          case rel =>
            refine ⟨u5, _, _, ⟨d1 ++ [cc], ?_, ?_, d3, HM2⟩, rfl, rfl, rfl⟩
            · have := HL2.out
              congr 1
              omega
            · rw [HSN.out]
          case measure => simp [intOf]; omega
        | nil =>
          have hMd : M = d1 := by rw [HM.out]; simp
          subst hMd
          simp only [List.length_nil, Nat.add_zero] at hml
          rw [HDV.out]
          have HV2 := hide (cl_slice HZ.out)
          have hkz : c.kl = z.kids.length := HV2.out.2
          obtain ⟨zl, hzl⟩ : ∃ n, z.kids.length = n := ⟨_, rfl⟩
          have h7 : wr.cell? ⟨w.heap.size, 7, none⟩ = some (.slice c.ko zl c.kc) := by
            have := HRW.out.1 7 (.slice c.ko c.kl c.kc) rfl
            rw [Nat.zero_add, hkz, hzl] at this
            exact this
          have hsl : VaSl wr (.slice c.ko zl c.kc) z.kids := by
            have := HV2.out.1.far HBW.out
            rw [hkz, hzl] at this
            exact this
          have hslw : VaSl w (.slice c.ko zl c.kc) z.kids := by
            have := HV2.out.1
            rw [hkz, hzl] at this
            exact this
          obtain ⟨b2, o2, vm2, vk2, hko, hb2, cc0, hm2, hk2, hw2⟩ := hslw.at (by rw [hzl]) hk
          rw [hko] at h7
          have cc2 := cc0.below HBW.out hb2
          obtain ⟨u, hu⟩ : ∃ u, z.kids[k.toNat] = u := ⟨_, rfl⟩
          have HN4 := hide (show NdAt p3 u y by have := HN3.out; rw [hu] at this; exact this)
          have HPU := hide (show vpts u ≤ 1048576 by
            have h1 := kpts_mem (show u ∈ z.kids by rw [← hu]; exact List.getElem_mem hk)
            have h2 := vpts_eq z
            have := HB.out
            omega)
          rw [hu] at cc2 hm2 hk2 hw2
          obtain ⟨y0, y1, y2, y3, y4, y5, y6, y7⟩ := cc2
          obtain ⟨mo2, mc2, rfl, -, -⟩ : ∃ ao cap, vm2 = .slice ao u.mag.length cap ∧ True ∧ True := by obtain ⟨ao, cap, h, _⟩ := hm2; exact ⟨ao, cap, h, trivial, trivial⟩
          obtain ⟨ko2, kc2, rfl, -, -⟩ := hk2.len
          obtain ⟨cy, hcy⟩ : ∃ cy : Cl, cy = ⟨u.kind, u.n, u.neg, mo2, u.mag.length, mc2, u.bits, u.ext, strOfNums u.text, ko2, u.kids.length, kc2⟩ := ⟨_, rfl⟩
          have RY := hide (show VaRd w cy.V u from ⟨⟨_, _, by rw [hcy]; rfl, hm2, hk2⟩, hw2⟩)
          have hq1 : k < (zl : Int) := by omega
          have hq2 : ¬ (zl : Int) ≤ k := by omega
          have hkn : ((k.toNat : Nat) : Int) = k := by omega
          obtain ⟨kn, hknn⟩ : ∃ n, k.toNat = n := ⟨_, rfl⟩
          rw [hknn] at hkn y0 y1 y2 y3 y4 y5 y6 y7
          subst hkn
          obtain ⟨W9, hW9⟩ : ∃ W9, wr.setCells w.heap.size 0 cy.L = W9 := ⟨_, rfl⟩
          have HR9 := hide (show W9.rangeAt w.heap.size 0 cy.L ∧ W9.there w.heap.size 0 8 ∧ W9.there (w.heap.size + 1) 0 8 from by
            rw [← hW9]
            exact ⟨World.rangeAt_setCells_same _ _ _ _ HRW.out.2.1, World.there_setCells HRW.out.2.1 _ _ _, World.there_setCells HRW.out.2.2 _ _ _⟩)
          have HB9 := hide (show Below w.heap.size w W9 by rw [← hW9]; exact below_cells HBW.out (Nat.le_refl _) _ _)
          have HW9 := hide hW9
          have HTH := hide HRW.out.2.1
          obtain ⟨J, hJ⟩ : ∃ J, I + 1 + M.length = J := ⟨_, rfl⟩
          have HP3 := hide (show (pathT (p1 ++ [(kn : Int)])).length = J by rw [HP1.out, hJ])
          have hlen2 : T = J + Q := by omega
          have hJI : I < J := by omega
          rw [hJ] at HEND ⊢
          have HCY := hide hcy
          have hwr : IntKind.i64.wrap ((J : Int) + 1) = (J : Int) + 1 := by rw [IntKind.wrap_i64]; omega
          clear hW9 hcy hm2 hk2 hw2 hslw hsl hko hu hkz hzl HP1 HMID HDQ hml hlen hdp hJ
          cases p3 with
          | nil =>
            have hQ0 := hT3 rfl
            have q3 : ¬ (J : Int) < (T : Int) := by omega
            clear hT3 hT4 HEND
            go_wp2_with (first | (refine wpList_stV rfl _ _ rfl (w.heap.size) 0 rfl cy (by rw [HCY.out]; rfl) HTH.out ?_; rw [HW9.out]; try simp only [Act.put, setIfInBounds_toArray, set_cons_zero, set_cons_succ]))
            go_roundw
            case rel =>
              exact ⟨p1 ++ [(kn : Int)], [], cy, u, by rw [HP3.out], HE2, HN4, RY, HPU, HR9, HB9⟩
            case measure => simp [intOf]; omega
          | cons k2 p4 =>
            have q3 : (J : Int) < (T : Int) := by have := hT4 (by simp); omega
            have x3 := HEND.out k2 p4 rfl
            have HN5 := hide HN4.out
            have HLEN := hide (And.intro hlen2 hJI)
            clear hT3 hT4 HEND hlen2 hJI
            generalize hp3 : k2 :: p4 = p3 at *
            clear hp3
            go_wp2_with (first | (refine wpList_stV rfl _ _ rfl (w.heap.size) 0 rfl cy (by rw [HCY.out]; rfl) HTH.out ?_; rw [HW9.out]; try simp only [Act.put, setIfInBounds_toArray, set_cons_zero, set_cons_succ]))
            go_roundw
            case rel => exact ⟨p1 ++ [(kn : Int)], p3, cy, u, by rw [HP3.out], HE2, HN4, RY, HPU, HR9, HB9⟩
            case measure => have := HLEN.out; simp [intOf]; omega
set_option maxHeartbeats 2000000 in
set_option maxRecDepth 100000 in
theorem ispath5 {w : World} {a : Nat → Addr} {g : Nat} {s t : ByteArray} (hS : Snt w a) (hH : Hnd w) (h : FltAt w g (evA a 4) 0 s) :
    Calls Tryz.prog 17 #[.iface 62 (.pointer (some ⟨g, 0, none⟩)), .int .i64 5, .string t] w fun e w' => e = .returned (.bool (decide (s = t))) ∧ Below w.heap.size w w' := by
  have CC := hide (fpcode hS hH (m := 4) (by omega) h)
  obtain ⟨u, x, r, e, h1, h2, h3⟩ := er_flt hS hH (m := 4) (by omega) h
  cases e
  have HA := hide h2
  have HT := hide h3
  clear h h1 h2 h3 hS hH
  go_enter Tryz.func17, Tryz.ntmps17
  go_wp2_with fail
  refine CC.out.mono ?_
  rintro e w1 ⟨rfl, hb1⟩
  have HB1 := hide hb1
  have CAt := hide (hat_any (HA.out.below hb1) (HT.out.below hb1))
  clear hb1 CC
  go_wp2_with fail
  refine CAt.out.mono ?_
  rintro e w2 ⟨rfl, hb2⟩
  have HB2 := hide (HB1.out.trans (hb2.mono HB1.out.size))
  have CP := hide (hpath_any (HA.out.below HB2.out) (HT.out.below HB2.out))
  clear hb2 CAt HB1
  simp only [atV]
  go_wp2_with fail
  refine CP.out.mono ?_
  rintro e w3 ⟨rfl, hb3⟩
  have HB3 := hide (HB2.out.trans (hb3.mono HB2.out.size))
  clear hb3 CP HB2
  simp only [pathV]
  by_cases hk : s = t
  · subst hk
    go_wp2
    go_ret
    exact ⟨by simp, HB3.out⟩
  · go_wp2
    go_ret
    exact ⟨by simp [hk]; exact fun e => hk (ba_inj e), HB3.out⟩
theorem ispath_chk {w : World} {B : Nat} {a : Nat → Addr} {u : Value} {i : Nat} {p : List Int} {t : ByteArray} (hS : Snt w a) (hH : Hnd w) (h : ErW B w u (evA a) (some (i, p))) (hi : i = 0 ∨ i = 4) (ht : strOfNums (pathT p) = t) :
    Calls Tryz.prog 17 #[u, .int .i64 ((i : Int) + 1), .string t] w fun e w' => e = .returned (.bool true) ∧ Below w.heap.size w w' := by
  obtain ⟨g, -, rfl, hf⟩ := h
  rcases hi with rfl | rfl
  · have := ispath1 (t := t) hS hH (show FltAt w g (evA a 0) 0 (strOfNums (pathT p)) from hf)
    rw [decide_eq_true ht] at this
    exact this
  · have := ispath5 (t := t) hS hH (show FltAt w g (evA a 4) 0 (strOfNums (pathT p)) from hf)
    rw [decide_eq_true ht] at this
    exact this
theorem chk_code {x : Va} {i : Nat} {p : List Int} (h : chkV x = some (i, p)) : i = 0 ∨ i = 4 := by
  unfold chkV at h
  split at h
  · cases h; exact Or.inl rfl
  · obtain ⟨q, -, e⟩ := Option.map_eq_some_iff.1 h
    cases e
    exact Or.inr rfl
theorem preK_shift {r p : List Int} : ∀ (xs : List Va) (i : Nat), (∀ y ∈ xs, ∀ p, preV (r ++ p) y = (preV p y).map fun q => (r ++ q.1, q.2)) → preK (r ++ p) i xs = (preK p i xs).map fun q => (r ++ q.1, q.2)
  | [], i, _ => by simp [preK]
  | y :: ys, i, h => by
    rw [preK, preK, List.map_append, preK_shift ys (i + 1) (fun z hz => h z (List.mem_cons_of_mem _ hz)), List.append_assoc, h y List.mem_cons_self]
theorem preV_shift (r : List Int) : ∀ (N : Nat) (x : Va), SizeOf.sizeOf x ≤ N → ∀ p, preV (r ++ p) x = (preV p x).map fun q => (r ++ q.1, q.2)
  | 0, x, h, _ => by cases x; simp at h
  | N + 1, x, h, p => by
    rw [preV_eq, preV_eq, List.map_cons, preK_shift x.kids 0 fun y hy p => preV_shift r N y (by have := Va.kid_lt hy; omega) p]
theorem pre_at : ∀ (N : Nat) (x : Va), SizeOf.sizeOf x ≤ N → ∀ p, ∀ q ∈ preV p x, ∃ r, q.1 = p ++ r ∧ NdAt r x q.2
  | 0, x, h, _, _, _ => by cases x; simp at h
  | N + 1, x, h, p, q, hq => by
    rw [preV_eq] at hq
    rcases List.mem_cons.1 hq with e | e
    · exact ⟨[], by rw [e]; simp, by rw [e]; rfl⟩
    · refine (preK_all (P := fun q => ∃ r, q.1 = p ++ r ∧ NdAt r x q.2) x.kids 0).2 (fun j hj q hq => ?_) q e
      obtain ⟨r, h1, h2⟩ := pre_at N _ (by have := Va.kid_lt (List.getElem_mem hj); omega) _ q hq
      refine ⟨((0 + j : Nat) : Int) :: r, by rw [h1]; simp, by omega, ?_⟩
      have e : ((0 + j : Nat) : Int).toNat = j := by omega
      refine ⟨by rw [e]; exact hj, ?_⟩
      simp only [e]
      exact h2
def nlV : Va := .mk 1 0 false [] 0 0 [] []
def nlC : Cl := ⟨1, 0, false, none, 0, 0, 0, 0, ⟨#[]⟩, none, 0, 0⟩
def a2V (x : Va) : Va := .mk 7 0 false [] 0 0 [] [nlV, x]
def a2C (g : Nat) : Cl := ⟨7, 0, false, none, 0, 0, 0, 0, ⟨#[]⟩, some ⟨g, 0, none⟩, 2, 2⟩
theorem a2_kids (x : Va) : (a2V x).kids = [nlV, x] := rfl
theorem nl_pts : vpts nlV = 1 := by rw [vpts_eq]; simp [nlV, Va.mag, Va.kids, kpts]
theorem a2_pts (x : Va) : vpts (a2V x) = vpts x + 2 := by rw [vpts_eq, a2_kids]; simp [a2V, Va.mag, kpts, nl_pts]; omega
theorem nl_dep : vdep nlV = 0 := rfl
theorem a2_dep (x : Va) : vdep (a2V x) = vdep x + 1 := by
  have := vdep_bound x
  rw [vdep_eq, a2_kids]
  simp only [kdep, nl_dep]
  rw [if_pos (show vcont (a2V x) = true from rfl), Int.max_eq_left this.1, Int.max_eq_right this.1]
theorem nl_alo : aloB nlV = true := by
  have h1 : fitB nlV = true := by unfold fitB; rfl
  have h2 : flV nlV = flB false false false false false false := by
    unfold flV flr
    rw [show (strOfNums nlV.text).toList = [] from em_list]
    rfl
  unfold aloB
  rw [h1, h2]
  have h3 : ∀ k : Int, k = 1 → ((decide (1 ≤ k) && decide (k ≤ 11)) && ((bits .andNot .u8 (flB false false false false false false) (usTab.getD k.toNat 0 : Nat) == 0) && true)) = true := by
    rintro k rfl
    decide
  exact h3 _ rfl
theorem a2_alo (x : Va) : aloB (a2V x) = true := by
  have h1 : fitB (a2V x) = true := by unfold fitB; rfl
  have h2 : flV (a2V x) = flB false false false false false true := by
    unfold flV flr
    rw [show (strOfNums (a2V x).text).toList = [] from em_list]
    rfl
  unfold aloB
  rw [h1, h2]
  have h3 : ∀ k : Int, k = 7 → ((decide (1 ≤ k) && decide (k ≤ 11)) && ((bits .andNot .u8 (flB false false false false false true) (usTab.getD k.toNat 0 : Nat) == 0) && true)) = true := by
    rintro k rfl
    decide
  exact h3 _ rfl
theorem a2_pre (x : Va) : preV [] (a2V x) = [([], a2V x), ([0], nlV)] ++ (preV [] x).map fun q => (1 :: q.1, q.2) := by
  rw [preV_eq, a2_kids, preK, preK, preK, preV_eq]
  have := preV_shift [1] _ x (Nat.le_refl _) []
  simp only [List.append_nil, List.nil_append] at this ⊢
  have e : preV [((0 + 1 : Nat) : Int)] x = preV [1] x := rfl
  rw [e, this]
  simp [nlV, Va.kids, preK]
theorem chk_zero {x : Va} {p : List Int} (h : chkV x = some (0, p)) : ∃ q, (preV [] x).find? (fun q => !aloB q.2) = some q ∧ q.1 = p := by
  unfold chkV at h
  split at h
  · rename_i q hq
    cases h
    exact ⟨q, hq, rfl⟩
  · obtain ⟨q, -, e⟩ := Option.map_eq_some_iff.1 h
    cases e
theorem chk_node0 {x : Va} {p : List Int} (h : chkV x = some (0, p)) : ∃ y, NdAt p x y ∧ chkV y = some (0, []) ∧ vpts y ≤ vpts x := by
  obtain ⟨q, hq, rfl⟩ := chk_zero h
  have hm := List.mem_of_find?_eq_some hq
  have hb := List.find?_some hq
  obtain ⟨r, h1, h2⟩ := pre_at _ x (Nat.le_refl _) [] q hm
  rw [List.nil_append] at h1
  refine ⟨q.2, by rw [h1]; exact h2, ?_, pre_pts _ x (Nat.le_refl _) [] q hm⟩
  unfold chkV
  rw [preV_eq, List.find?_cons_of_pos (by simpa using hb)]
theorem chk_a2_0 {x : Va} {p : List Int} (h : chkV x = some (0, p)) : chkV (a2V x) = some (0, 1 :: p) := by
  obtain ⟨q, hq, rfl⟩ := chk_zero h
  unfold chkV
  rw [a2_pre, List.find?_append, List.find?_eq_none.2 (by
    intro z hz
    simp only [List.mem_cons, List.not_mem_nil, or_false] at hz
    rcases hz with rfl | rfl
    · simp [a2_alo]
    · simp [nl_alo]), Option.none_or, List.find?_map]
  rw [show ((fun q : List Int × Va => !aloB q.2) ∘ fun q : List Int × Va => ((1 :: q.1, q.2) : List Int × Va)) = fun q => !aloB q.2 from rfl, hq]
  rfl
theorem chk_four {x : Va} {p : List Int} (h : chkV x = some (4, p)) : OkD x ∧ ∃ q, (preV [] x).find? tooD = some q ∧ q.1 = p := by
  unfold chkV at h
  split at h
  · cases h
  · rename_i hn
    obtain ⟨q, hq, e⟩ := Option.map_eq_some_iff.1 h
    cases e
    exact ⟨⟨[], fun z hz => by have := List.find?_eq_none.1 hn z hz; simpa using this⟩, q, hq, rfl⟩
theorem chk_node4 {x : Va} {p : List Int} (h : chkV x = some (4, p)) : ∃ y, NdAt p x y ∧ vcont y = true ∧ vpts y ≤ vpts x := by
  obtain ⟨-, q, hq, rfl⟩ := chk_four h
  have hm := List.mem_of_find?_eq_some hq
  have hb := List.find?_some hq
  obtain ⟨r, h1, h2⟩ := pre_at _ x (Nat.le_refl _) [] q hm
  rw [List.nil_append] at h1
  refine ⟨q.2, by rw [h1]; exact h2, ?_, pre_pts _ x (Nat.le_refl _) [] q hm⟩
  unfold tooD at hb
  rw [Bool.and_eq_true] at hb
  exact hb.1
theorem chk_a2_4 {x : Va} {p : List Int} (h : chkV x = some (4, p)) : ∃ p', chkV (a2V x) = some (4, p') := by
  obtain ⟨ok, -⟩ := chk_four h
  have hd : 128 < vdep x := by
    refine Int.not_le.1 fun hd => ?_
    rw [(chk_ok ok).1 hd] at h
    cases h
  have oka : OkD (a2V x) := by
    refine ⟨[], fun q hq => ?_⟩
    rw [a2_pre] at hq
    rcases List.mem_append.1 hq with e | e
    · simp only [List.mem_cons, List.not_mem_nil, or_false] at e
      rcases e with rfl | rfl
      · exact a2_alo x
      · exact nl_alo
    · obtain ⟨z, hz, rfl⟩ := List.mem_map.1 e
      exact alo_all _ x (Nat.le_refl _) ok [] z hz
  exact (chk_ok oka).2 (by rw [a2_dep]; omega)
theorem chk_len {x : Va} {i : Nat} {p : List Int} (h : chkV x = some (i, p)) (hp : vpts x ≤ 1048576) : (pathT p).length ≤ 4611686018427387904 := by
  have key : ∀ q ∈ preV [] x, q.1 = p → (pathT p).length ≤ 4611686018427387904 := by
    rintro q hq rfl
    obtain ⟨r, h1, h2, h3⟩ := pre_mem _ x (Nat.le_refl _) [] q hq
    rw [List.nil_append] at h1
    subst h1
    have hv := vnod_pts x
    have := pathT_len q.1 fun z hz => by have := h2 z hz; omega
    omega
  rcases chk_code h with rfl | rfl
  · obtain ⟨q, hq, e⟩ := chk_zero h
    exact key q (List.mem_of_find?_eq_some hq) e
  · obtain ⟨-, q, hq, e⟩ := chk_four h
    exact key q (List.mem_of_find?_eq_some hq) e
theorem nl_wf : VaW nlV := by
  unfold nlV
  constructor <;> simp only [Va.kind, Va.n, Va.bits, Va.ext, Va.text, Va.mag, List.length_nil] <;> first | decide | omega | (exact fun i => by simp [Nt.lb]) | (intro z hz; cases hz)
theorem nl_good (W : World) : GoodV W (nlV, .slice none 0 0, .slice none 0 0) := ⟨rd_nil W, nl_wf, sl_nil W⟩
theorem a2_wf (x : Va) : VaW (a2V x) := by
  unfold a2V
  constructor <;> simp only [Va.kind, Va.n, Va.bits, Va.ext, Va.text, Va.mag, List.length_nil] <;> first | decide | omega | (exact fun i => by simp [Nt.lb]) | (intro z hz; cases hz)
theorem a2_new {W W5 : World} {q : Va × Value × Value} (g : GoodV W q) (hW : W.alloc (.cells (clF [nlC, clQ q]).toArray 31) = W5) : VaRd W5 (a2C W.heap.size).V (a2V q.1) := by
  have hb : Below W.heap.size W W5 := by rw [← hW]; exact bel_new _ _
  have hg : ∀ z ∈ [((nlV, .slice none 0 0, .slice none 0 0) : Va × Value × Value), q], GoodV W z := two_of (nl_good W) g
  have e : clF ([((nlV, .slice none 0 0, .slice none 0 0) : Va × Value × Value), q].map clQ) = flatV [(nlV, .slice none 0 0, .slice none 0 0), q] := clF_flat hg
  have hr : W5.heap[W.heap.size]? = some (.cells (flatV [(nlV, .slice none 0 0, .slice none 0 0), q]).toArray 31 (0, 0)) := by
    rw [← hW, ← e]
    exact heap_alloc_new _ _
  exact ⟨⟨.slice none 0 0, .slice (some ⟨W.heap.size, 0, none⟩) 2 2, rfl, rd_nil W5, (clgd_made hr (fun z hz => (hg z hz).far hb) rfl (by simp)).2⟩, a2_wf q.1⟩
theorem ChE.checkV {w : World} {ev : Nat → Value} (E : ChE w ev) {v : Value} {x : Va} (hv : VaRd w v (a2V x)) (hp : vpts x ≤ 1048576) :
    Calls Tryz.prog 12 #[v] w fun e w' => (∃ u, e = .returned u ∧ ErW w.heap.size w' u ev (chkV (a2V x))) ∧ Below w.heap.size w w' := by
  obtain ⟨t0, o0, h0⟩ := E.e0
  obtain ⟨t4, o4, h4⟩ := E.e4
  refine check_anyV E.L E.T E.U E.P h0 h4 E.c0 E.c4 hv (by rw [a2_pts]; omega) fun q hq hk => ?_
  rw [a2_pre] at hq
  rcases List.mem_append.1 hq with e | e
  · simp only [List.mem_cons, List.not_mem_nil, or_false] at e
    rcases e with rfl | rfl
    · exact absurd hk (by simp [a2V, Va.kind])
    · exact absurd hk (by simp [nlV, Va.kind])
  · obtain ⟨z, hz, rfl⟩ := List.mem_map.1 e
    have h1 := pre_pts _ x (Nat.le_refl _) [] z hz
    have h2 := vpts_eq z.2
    simp only
    omega
theorem path_chk {w : World} {B : Nat} {a : Nat → Addr} {u : Value} {i : Nat} {p : List Int} (hS : Snt w a) (hH : Hnd w) (h : ErW B w u (evA a) (some (i, p))) (hi : i < 11) :
    Calls Tryz.prog 27 #[u] w fun e w' => e = .returned (.tuple #[.string (strOfNums (pathT p)), .bool true]) ∧ Below w.heap.size w w' := by
  obtain ⟨g, -, rfl, hf⟩ := h
  obtain ⟨u, x, r, e, h1, h2, h3⟩ := er_flt hS hH (m := i) (by omega) (show FltAt w g (evA a i) 0 (strOfNums (pathT p)) from hf)
  cases e
  exact hpath_any h2 h3
theorem cl_kind {w : World} {c : Cl} {x : Va} (h : VaRd w c.V x) : c.L[0]? = some (.int .i8 x.kind) := by
  obtain ⟨⟨vm, vk, e, -, -⟩, -⟩ := h
  have := congrArg (fun v => match v with | .agg xs => xs[0]? | _ => none) e
  simpa [Cl.V, vaV] using this
theorem ito_one : itoL 1 = [49] := by
  first
  | kernel_rfl
  | exact Dstr.unique (ito_dstr (by decide)) ⟨fun x hx => by rw [List.mem_singleton.1 hx]; omega, by simp, .inl (by simp [Nt.lb]), by rw [dgv_one]; omega⟩
set_option maxHeartbeats 16000000 in
set_option maxRecDepth 100000 in
theorem blames14 {w : World} {a : Nat → Addr} (LL : Lays w) (TT : Brn w) (UU : Uss w) (PP : PtW w) (hS : Snt w a) (hH : Hnd w) {x : Va} {v1 : Value} (h1 : VaRd w v1 x) :
    Calls Tryz.prog 8 #[v1] w fun e w' => e = .returned (.bool true) ∧ Below w.heap.size w w' := by
  obtain ⟨q1, rfl, rfl, g1⟩ := h1.cl
  have HLV := hide (fun (W : World) (hW : Below w.heap.size w W) => lives14_any (w := W) (LL.below hW) (TT.below hW) (UU.below hW) (PP.below hW) (hS.below hW) (hH.below hW))
  have HE := hide (che LL TT UU PP hS)
  have HS := hide hS
  have HH := hide hH
  clear LL TT UU PP hS hH
  obtain ⟨W1, hW1⟩ : ∃ W1, w.alloc (.cells (clQ q1).L.toArray 31) = W1 := ⟨_, rfl⟩
  obtain ⟨b1, k1, s1⟩ := bx_box hW1 h1
  obtain ⟨W2, hW2⟩ : ∃ W2, W1.alloc (.cells (clF [clQ q1]).toArray 31) = W2 := ⟨_, rfl⟩
  have HBY := hide (bey_row (zs := [q1]) (n := 1) (one_of (g1.far k1)) rfl (by decide) hW2)
  have k2 : Below W1.heap.size W1 W2 := by rw [← hW2]; exact bel_new _ _
  have HB1 := hide (fun (u : World) (hu : Below W1.heap.size W1 u) => b1.below hu)
  have HARN := hide (fun (W W5 : World) (hW : Below W1.heap.size W1 W) (h : W.alloc (.cells (clF [nlC, clQ q1]).toArray 31) = W5) => a2_new ((g1.far k1).far hW) h)
  have HK1 := hide k1
  have HK2 := hide k2
  have HV1 := hide h1
  have HW1 := hide hW1
  have HW2 := hide hW2
  clear hW1 hW2 g1 b1 k1 k2 h1 s1
  simp only [List.map_cons, List.map_nil] at HBY
  generalize hc1 : clQ q1 = c1 at *
  clear hc1
  generalize q1.1 = x at *
  clear q1
  go_enter Tryz.func8, Tryz.ntmps8
  unfold Cl.V
  go_upto_region 1 with fail
  try rw [HW1.out]
  have K : Below W1.heap.size W1 W1 := Below.refl _ _
  go_wp2_with (first | (refine wpList_ldV rfl _ rfl (w.heap.size) 0 rfl c1 (HB1.out _ K).row ?_; try simp only [Act.put, setIfInBounds_toArray, set_cons_zero, set_cons_succ]) | (refine wpList_bsC1 rfl _ rfl c1 rfl ?_; rw [HW2.out]; try simp only [Act.put, setIfInBounds_toArray, set_cons_zero, set_cons_succ]))
  with_reducible refine HBY.out.mono ?_
  rintro e w3 ⟨⟨q, rfl, hq⟩, hb⟩
  replace K := below_trans HK2.out hb
  clear hb
  cases q with
  | true =>
    clear hq
    go_wp2
    go_ret
    exact ⟨rfl, HK1.out.trans (K.mono HK1.out.size)⟩
  | false =>
    have hp : vpts x ≤ 1048576 := by have := hq rfl; simpa only [kpts, Nat.add_zero] using this
    clear hq
    have HFR := hide (fun (W : World) (hW : Below W1.heap.size W1 W) => HK1.out.trans (hW.mono HK1.out.size))
    have HP := hide hp
    have HG1 := hide (fun (W : World) (hW : Below W1.heap.size W1 W) => rgood_any (HV1.out.far (HFR.out _ hW)) HP.out)
    have HCK := hide (fun (W : World) (hW : Below W1.heap.size W1 W) => (HE.out.below (HFR.out _ hW)).check (HV1.out.far (HFR.out _ hW)) HP.out)
    clear hp
    cases hr : chkV x with
    | none =>
      rw [hr] at HCK
      rw [show goodB x = true by unfold goodB; rw [hr]; rfl] at HG1
      clear hr
      go_wp2_with (first | (refine wpList_ldV rfl _ rfl (w.heap.size) 0 rfl c1 (HB1.out _ K).row ?_; try simp only [Act.put, setIfInBounds_toArray, set_cons_zero, set_cons_succ]) | (go_at_call 12; (with_reducible refine (HCK.out _ K).mono ?_); rintro e wn ⟨⟨u, rfl, hu⟩, hb⟩; obtain rfl : u = .nilIface := hu; replace K := below_trans K hb; clear hb) | (go_at_call 22; (first | (with_reducible refine (HG1.out _ K).mono ?_)); rintro e wn ⟨rfl, hb⟩; replace K := below_trans K hb; clear hb) | (go_at_call 14; (first | (with_reducible refine (HLV.out _ (HFR.out _ K)).mono ?_)); rintro e wn ⟨rfl, hb⟩; replace K := below_trans K hb; clear hb))
      go_ret
      exact ⟨rfl, HFR.out _ K⟩
    | some ip =>
      obtain ⟨i, p⟩ := ip
      rw [hr] at HCK
      have hi := chk_code hr
      have HI := hide (show i < 11 by omega)
      obtain ⟨y, hat, hyp, hy0, hy4⟩ : ∃ y, NdAt p x y ∧ vpts y ≤ vpts x ∧ (i = 0 → chkV y = some (0, [])) ∧ (i = 4 → vcont y = true) := by
        rcases hi with rfl | rfl
        · obtain ⟨y, h1, h2, h3⟩ := chk_node0 hr
          exact ⟨y, h1, h3, fun _ => h2, fun h => absurd h (by decide)⟩
        · obtain ⟨y, h1, h2, h3⟩ := chk_node4 hr
          exact ⟨y, h1, h3, fun h => absurd h (by decide), fun _ => h2⟩
      have HA0 := hide (fun h : i = 0 => show chkV (a2V x) = some (0, 1 :: p) from chk_a2_0 (by rw [← h]; exact hr))
      have HA4 := hide (fun h : i = 4 => show ∃ p', chkV (a2V x) = some (4, p') from chk_a2_4 (p := p) (by rw [← h]; exact hr))
      have hlen := chk_len hr HP.out
      obtain ⟨t, ht⟩ : ∃ t, strOfNums (pathT p) = t := ⟨_, rfl⟩
      have HTT := hide ht
      have HSZ := hide (show t.size ≤ 4611686018427387904 by rw [← ht, strOfNums_size]; exact hlen)
      have HND := hide (fun (W : World) (hW : Below W1.heap.size W1 W) => node14 (s := t) (HV1.out.far (HFR.out _ hW)) HP.out hat ht.symm hlen)
      have HY0 := hide hy0
      have HY4 := hide hy4
      have HYP := hide (show vpts y ≤ 1048576 by have := HP.out; omega)
      have HII := hide hi
      clear hat hyp hy0 hy4 hlen ht hr hi
      go_upto_region 6 with (first | (refine wpList_ldV rfl _ rfl (w.heap.size) 0 rfl c1 (HB1.out _ K).row ?_; try simp only [Act.put, setIfInBounds_toArray, set_cons_zero, set_cons_succ]) | (go_at_call 12; (with_reducible refine (HCK.out _ K).mono ?_); rintro e wc ⟨⟨u, rfl, hu⟩, hb⟩; replace K := below_trans K hb; have HEU := hide (fun (W : World) (hW : Below wc.heap.size wc W) => hu.below hW); obtain ⟨gg, -, rfl, -⟩ := hu; clear hb))
      have Kc : Below wc.heap.size wc wc := Below.refl _ _
      have HPA := hide (fun (W : World) (hW : Below W1.heap.size W1 W) (hc : Below wc.heap.size wc W) => (show Calls Tryz.prog 27 #[.iface 62 (.pointer (some ⟨gg, 0, none⟩))] W fun e w' => e = .returned (.tuple #[.string t, .bool true]) ∧ Below W.heap.size W w' from by
        have h := path_chk (HS.out.below (HFR.out _ hW)) (HH.out.below (HFR.out _ hW)) (HEU.out _ hc) HI.out
        rw [HTT.out] at h
        exact h))
      have HCD := hide (fun (W : World) (hW : Below W1.heap.size W1 W) (hc : Below wc.heap.size wc W) => (show Calls Tryz.prog 16 #[.iface 62 (.pointer (some ⟨gg, 0, none⟩))] W fun e w' => e = .returned (.int .i64 ((i : Int) + 1)) ∧ Below W.heap.size W w' from code_chk (HS.out.below (HFR.out _ hW)) (HH.out.below (HFR.out _ hW)) (HEU.out _ hc) (by rintro i' p' h; cases h; exact HI.out)))
      clear HCK
      go_upto_region 7 with (first | (go_at_call 27; (first | (with_reducible refine (HPA.out _ K Kc).mono ?_)); rintro e wn ⟨rfl, hb⟩; replace K := below_trans K hb; replace Kc := below_trans Kc hb; clear hb))
      go_upto_region 8 with (first | (refine wpList_ldV rfl _ rfl (w.heap.size) 0 rfl c1 (HB1.out _ K).row ?_; try simp only [Act.put, setIfInBounds_toArray, set_cons_zero, set_cons_succ]) | (go_at_call 28; (with_reducible refine (HND.out _ K).mono ?_); rintro e wd ⟨⟨cn, rfl, hcn⟩, hb⟩; replace hcn := hcn.far hb; replace K := below_trans K hb; replace Kc := below_trans Kc hb; have HTH := hide (there_new wd 31 #[.int .i8 0, .int .u64 0, .bool false, .slice none 0 0, .int .u64 0, .int .i8 0, .string ⟨#[]⟩, .slice none 0 0] (n := 8) (by decide)); (obtain ⟨w8, hw8⟩ : ∃ u, (wd.alloc (.cells #[.int .i8 0, .int .u64 0, .bool false, .slice none 0 0, .int .u64 0, .int .i8 0, .string ⟨#[]⟩, .slice none 0 0] 31)).setCells wd.heap.size 0 cn.L = u := ⟨_, rfl⟩); have HBX := hide (box_new hw8 hcn); have HW8 := hide hw8; clear hcn hb hw8) | (refine wpList_stV rfl _ _ rfl wd.heap.size 0 rfl cn rfl HTH.out ?_; rw [HW8.out]; try simp only [Act.put, setIfInBounds_toArray, set_cons_zero, set_cons_succ]))
      replace K := below_trans K HBX.out.2
      replace Kc := below_trans Kc HBX.out.2
      have Kn : Below w8.heap.size w8 w8 := Below.refl _ _
      have HX := hide (fun (u : World) (hu : Below w8.heap.size w8 u) => HBX.out.1.below hu)
      have HXK := hide (cl_kind HBX.out.1.rd)
      generalize hbn : wd.heap.size = bn at *
      clear HBX HTH HW8 HND HPA hbn
      go_upto_region 10 with fail
      go_upto_region 11 with (first | (refine wpList_ldV rfl _ rfl (w.heap.size) 0 rfl c1 (HB1.out _ K).row ?_; try simp only [Act.put, setIfInBounds_toArray, set_cons_zero, set_cons_succ]) | (refine wpList_bsC2 rfl _ _ rfl nlC c1 rfl rfl ?_; (obtain ⟨W5, hW5⟩ : ∃ W5, w8.alloc (.cells (clF [nlC, c1]).toArray 31) = W5 := ⟨_, rfl⟩); have HRD := hide (HARN.out w8 W5 K hW5); have HB5 := hide (show Below w8.heap.size w8 W5 by rw [← hW5]; exact bel_new _ _); rw [hW5]; clear hW5; (obtain ⟨W9, hW9⟩ : ∃ W9, (W5.alloc (.cells #[.int .i8 0, .int .u64 0, .bool false, .slice none 0 0, .int .u64 0, .int .i8 0, .string ⟨#[]⟩, .slice none 0 0] 31)).setCells W5.heap.size 0 (a2C w8.heap.size).L = W9 := ⟨_, rfl⟩); have HBA := hide (box_new hW9 HRD.out); have HTH := hide (there_new W5 31 #[.int .i8 0, .int .u64 0, .bool false, .slice none 0 0, .int .u64 0, .int .i8 0, .string ⟨#[]⟩, .slice none 0 0] (n := 8) (by decide)); have HW9 := hide hW9; clear hW9; try simp only [Act.put, setIfInBounds_toArray, set_cons_zero, set_cons_succ]) | (refine wpList_stV rfl _ _ rfl W5.heap.size 0 rfl (a2C w8.heap.size) rfl HTH.out ?_; rw [HW9.out]; try simp only [Act.put, setIfInBounds_toArray, set_cons_zero, set_cons_succ]))
      replace K := below_trans (below_trans K HB5.out) HBA.out.2
      replace Kc := below_trans (below_trans Kc HB5.out) HBA.out.2
      replace Kn := below_trans (below_trans Kn HB5.out) HBA.out.2
      have Ka : Below W9.heap.size W9 W9 := Below.refl _ _
      have HA := hide (fun (u : World) (hu : Below W9.heap.size W9 u) => HBA.out.1.below hu)
      have HCL := hide (fun (W : World) (hW : Below W1.heap.size W1 W) (ha : Below W9.heap.size W9 W) => (HE.out.below (HFR.out _ hW)).checkV (HA.out _ ha).rd HP.out)
      generalize hba : W5.heap.size = ba at *
      clear HBA HTH HW9 HRD HB5 hba
      go_upto_region 12 with (first | (refine wpList_ldV rfl _ rfl (ba) 0 rfl (a2C w8.heap.size) (HA.out _ Ka).row ?_; try simp only [Act.put, setIfInBounds_toArray, set_cons_zero, set_cons_succ]) | (go_at_call 12; (with_reducible refine (HCL.out _ K Ka).mono ?_); rintro e we ⟨⟨u2, rfl, hu2⟩, hb⟩; replace K := below_trans K hb; replace Kc := below_trans Kc hb; replace Kn := below_trans Kn hb; replace Ka := below_trans Ka hb; have HEV := hide (fun (W : World) (hW : Below we.heap.size we W) => hu2.below hW); clear hb hu2))
      have Ke : Below we.heap.size we we := Below.refl _ _
      clear HCL
      rcases HII.out with hi0 | hi4
      · have he := HA0.out hi0
        have hy := HY0.out hi0
        subst hi0
        have HIP := hide (fun (W : World) (hW : Below W1.heap.size W1 W) (hc : Below we.heap.size we W) => (show Calls Tryz.prog 17 #[u2, .int .i64 1, .string (⟨#[47, 49]⟩ ++ t)] W fun e w' => e = .returned (.bool true) ∧ Below W.heap.size W w' from by
          have h := HEV.out _ hc
          rw [he] at h
          exact ispath_chk (HS.out.below (HFR.out _ hW)) (HH.out.below (HFR.out _ hW)) h (Or.inl rfl) (by rw [← HTT.out, pathT_cons, show ((47 : Int) :: (itoL 1 ++ pathT p)) = [47, 49] ++ pathT p by rw [ito_one]; rfl, ← utxt_join]; rfl)))
        have HCN := hide (fun (W : World) (hW : Below W1.heap.size W1 W) (hn : Below w8.heap.size w8 W) => (HE.out.below (HFR.out _ hW)).check (HX.out _ hn).rd HYP.out)
        rw [hy] at HCN
        have HC1 := hide (fun (W : World) (hW : Below W1.heap.size W1 W) (hc : Below wc.heap.size wc W) => (show Calls Tryz.prog 16 #[.iface 62 (.pointer (some ⟨gg, 0, none⟩))] W fun e w' => e = .returned (.int .i64 1) ∧ Below W.heap.size W w' from HCD.out W hW hc))
        have z1 : ¬ 9223372036854775807 < 2 + t.size := by have := HSZ.out; omega
        clear he hy HCD HEU HEV HA0 HA4 HY0 HY4
        go_wp2_with (first | (go_at_call 16; (with_reducible refine (HC1.out _ K Kc).mono ?_); rintro e wn ⟨rfl, hb⟩; replace K := below_trans K hb; replace Kc := below_trans Kc hb; replace Kn := below_trans Kn hb; replace Ka := below_trans Ka hb; replace Ke := below_trans Ke hb; clear hb) | (refine wpList_ldV rfl _ rfl (bn) 0 rfl cn (HX.out _ Kn).row ?_; try simp only [Act.put, setIfInBounds_toArray, set_cons_zero, set_cons_succ]) | (go_at_call 12; (with_reducible refine (HCN.out _ K Kn).mono ?_); rintro e wn ⟨⟨u3, rfl, hu3⟩, hb⟩; replace K := below_trans K hb; replace Kc := below_trans Kc hb; replace Kn := below_trans Kn hb; replace Ka := below_trans Ka hb; replace Ke := below_trans Ke hb; have HI3 := hide (show Calls Tryz.prog 17 #[u3, .int .i64 1, .string ⟨#[]⟩] wn fun e w' => e = .returned (.bool true) ∧ Below wn.heap.size wn w' from ispath_chk (HS.out.below (HFR.out _ K)) (HH.out.below (HFR.out _ K)) hu3 (Or.inl rfl) rfl); clear hb hu3) | (go_at_call 17; (first | (with_reducible refine (HI3.out).mono ?_)); rintro e wn ⟨rfl, hb⟩; replace K := below_trans K hb; replace Kc := below_trans Kc hb; replace Kn := below_trans Kn hb; replace Ka := below_trans Ka hb; replace Ke := below_trans Ke hb; clear hb) | (go_at_call 17; (first | (with_reducible refine (HIP.out _ K Ke).mono ?_)); rintro e wn ⟨rfl, hb⟩; replace K := below_trans K hb; replace Kc := below_trans Kc hb; replace Kn := below_trans Kn hb; replace Ka := below_trans Ka hb; replace Ke := below_trans Ke hb; clear hb) | (go_at_call 14; (first | (with_reducible refine (HLV.out _ (HFR.out _ K)).mono ?_)); rintro e wn ⟨rfl, hb⟩; replace K := below_trans K hb; replace Kc := below_trans Kc hb; replace Kn := below_trans Kn hb; replace Ka := below_trans Ka hb; replace Ke := below_trans Ke hb; clear hb))
        go_ret
        exact ⟨rfl, HFR.out _ K⟩
      · obtain ⟨p', he⟩ := HA4.out hi4
        have hy := HY4.out hi4
        subst hi4
        have HC5 := hide (fun (W : World) (hW : Below W1.heap.size W1 W) (hc : Below wc.heap.size wc W) => (show Calls Tryz.prog 16 #[.iface 62 (.pointer (some ⟨gg, 0, none⟩))] W fun e w' => e = .returned (.int .i64 5) ∧ Below W.heap.size W w' from HCD.out W hW hc))
        have HC6 := hide (fun (W : World) (hW : Below W1.heap.size W1 W) (hc : Below we.heap.size we W) => (show Calls Tryz.prog 16 #[u2] W fun e w' => e = .returned (.int .i64 5) ∧ Below W.heap.size W w' from by
          have h := HEV.out _ hc
          rw [he] at h
          exact code_chk (HS.out.below (HFR.out _ hW)) (HH.out.below (HFR.out _ hW)) h (by rintro i' q' h; cases h; decide)))
        have hk : y.kind = 7 ∨ y.kind = 8 ∨ y.kind = 9 := by
          unfold vcont at hy
          simpa [Bool.or_eq_true, beq_iff_eq, or_assoc] using hy
        have HKC := hide (fun (W : World) (hn : Below w8.heap.size w8 W) => (show W.cell? ⟨bn, 0, none⟩ = some (.int .i8 y.kind) from by
          have := (HX.out _ hn).row 0 _ HXK.out
          simpa using this))
        clear he hy HCD HEU HEV HA0 HA4 HY0 HY4
        go_upto_region 14 with (first | (go_at_call 16; (first | (with_reducible refine (HC5.out _ K Kc).mono ?_) | (with_reducible refine (HC6.out _ K Ke).mono ?_)); rintro e wn ⟨rfl, hb⟩; replace K := below_trans K hb; replace Kc := below_trans Kc hb; replace Kn := below_trans Kn hb; replace Ka := below_trans Ka hb; replace Ke := below_trans Ke hb; clear hb))
        have hc0 := HKC.out _ Kn
        rcases hk with hk | hk | hk
        all_goals
          rw [hk] at hc0
          go_upto_region 15 with fail
          clear hc0
          go_wp2_with (first | (go_at_call 16; (first | (with_reducible refine (HC5.out _ K Kc).mono ?_) | (with_reducible refine (HC6.out _ K Ke).mono ?_)); rintro e wn ⟨rfl, hb⟩; replace K := below_trans K hb; replace Kc := below_trans Kc hb; replace Kn := below_trans Kn hb; replace Ka := below_trans Ka hb; replace Ke := below_trans Ke hb; clear hb) | (go_at_call 14; (first | (with_reducible refine (HLV.out _ (HFR.out _ K)).mono ?_)); rintro e wn ⟨rfl, hb⟩; replace K := below_trans K hb; replace Kc := below_trans Kc hb; replace Kn := below_trans Kn hb; replace Ka := below_trans Ka hb; replace Ke := below_trans Ke hb; clear hb))
          go_ret
          exact ⟨rfl, HFR.out _ K⟩
end Go.Proofs.YticmlelalbaalaaGreatDoor
