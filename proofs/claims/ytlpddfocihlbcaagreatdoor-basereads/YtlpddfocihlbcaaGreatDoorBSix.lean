/- base.Base64 -/
import Derived.Test.YtlpddfocihlbcaaGreatDoorBThree
import Derived.Laws.CopyOwn
namespace Go.Proofs.YtlpddfocihlbcaaGreatDoor
open Go.RowKit
set_option linter.unusedVariables false

theorem own_keep {w w' : World} {B : Nat} {E : TypeId} {v : Value} {n : Nat} {xs : List Value} (h : w.ownsRow B E 1 v n xs) (hb : Below w.heap.size w w') : w'.ownsRow B E 1 v n xs := by
  obtain ⟨h1, h2 | ⟨g, cap, cur, rfl, h3, h4, h5⟩⟩ := h
  · exact ⟨h1, .inl h2⟩
  · exact ⟨h1, .inr ⟨g, cap, cur, rfl, h3, by rw [hb.block g (Array.getElem?_eq_some_iff.1 h4).1]; exact h4, h5⟩⟩
theorem b4_set {W : World} {g : Nat} {x y z u a b c d : Int} (hR : Row .u8 52 W g [x, y, z, u]) : Row .u8 52 ((((W.setCell ⟨g, 0, none⟩ (.int .u8 a)).setCell ⟨g, 1, none⟩ (.int .u8 b)).setCell ⟨g, 2, none⟩ (.int .u8 c)).setCell ⟨g, 3, none⟩ (.int .u8 d)) g [a, b, c, d] := (((hR.set 0 a).set 1 b).set 2 c).set 3 d
theorem row_cells {k : IntKind} {E : TypeId} {w : World} {g : Nat} {zs : List Int} (h : Row k E w g zs) : Cells k w (some ⟨g, 0, none⟩) zs := fun _ => ⟨g, 0, rfl, h.lt, fun i hi => by rw [Nat.zero_add]; exact h.cell hi⟩
theorem copy_src {w : World} {ad : Addr} {k : IntKind} {b off : Nat} {rs cs : List Int} (he : ad = ⟨b, off, none⟩) (hc : ∀ i, i < rs.length → w.cell? ⟨b, off + i, none⟩ = some (.int k (Nt.lb rs i))) (hp : cs = rs.take cs.length) :
    ∀ j v, (cs.map (Value.int k))[j]? = some v → w.cell? (ad.add j) = some v := by
  subst he
  intro j v hj
  rw [List.getElem?_map] at hj
  cases hq : cs[j]? with
  | none => rw [hq] at hj; simp at hj
  | some x =>
    rw [hq] at hj
    simp only [Option.map_some, Option.some.injEq] at hj
    have hjl : j < cs.length := (List.getElem?_eq_some_iff.1 hq).1
    rw [hp, List.getElem?_take_of_lt hjl] at hq
    have hjr : j < rs.length := (List.getElem?_eq_some_iff.1 hq).1
    rw [Addr.add_lit, hc j hjr, ← hj, ulb_get hjr, (List.getElem?_eq_some_iff.1 hq).2]
theorem ints_one (k : IntKind) (cs : List Int) : ∀ v ∈ cs.map (Value.int k), v.oneCell' = true := fun u hu => by
  obtain ⟨x, _, rfl⟩ := List.mem_map.1 hu; rfl
theorem cells_drop {k : IntKind} {w : World} {b off n : Nat} {rs : List Int} (h : Cells k w (some ⟨b, off, none⟩) rs) (hn : n ≤ rs.length) : Cells k w (some ⟨b, off + n, none⟩) (rs.drop n) := by
  intro hp
  rw [List.length_drop] at hp
  obtain ⟨b', off', he, h2, h3⟩ := h (by omega)
  cases he
  refine ⟨b, off + n, rfl, h2, fun i hi => ?_⟩
  rw [List.length_drop] at hi
  rw [Nat.add_assoc, h3 (n + i) (by omega)]
  simp [Nt.lb, List.getElem?_drop]
theorem b64_rest (ds rs : List Int) (h : rs ≠ [] → ds.length % 3 = 0) (hr : rs ≠ []) : b64 (ds ++ rs.take 3) = b64 ds ++ b64 (rs.take 3) := b64_app _ (h hr)
theorem three_rest {ds rs : List Int} (h : rs ≠ [] → ds.length % 3 = 0) (hr : rs ≠ []) : rs.drop 3 ≠ [] → (ds ++ rs.take 3).length % 3 = 0 := by
  intro hd
  have : 3 < rs.length := by
    rcases Nat.lt_or_ge 3 rs.length with g | g
    · exact g
    · exact absurd (List.drop_eq_nil_of_le g) hd
  rw [List.length_append, List.length_take]
  have := h hr
  omega
theorem Tryz.infoZ8 : (Tryz.prog.info? 5).map (·.size) = some 1 := by kernel_rfl
theorem list1' {l : List Int} (h : l.length = 1) : ∃ a, l = [a] := by
  match l, h with | [a], _ => exact ⟨a, rfl⟩
theorem list2' {l : List Int} (h : l.length = 2) : ∃ a b, l = [a, b] := by
  match l, h with | [a, b], _ => exact ⟨a, b, rfl⟩
theorem list3' {l : List Int} (h : 3 ≤ l.length) : ∃ a b c r, l = a :: b :: c :: r := by
  match l, h with | a :: b :: c :: r, _ => exact ⟨a, b, c, r, rfl⟩
def lenOf' : Value → Nat
  | .slice _ n _ => n
  | .string s => s.size
  | _ => 0
theorem copy_list {wr : World} {b off N cap n m : Nat} {rs cs : List Int} (T : TypeId) (hc : ∀ i, i < rs.length → wr.cell? ⟨b, off + i, none⟩ = some (.int .u8 (Nt.lb rs i))) (hb : b < wr.heap.size) (hp : cs = rs.take cs.length) (hn : cs.length = n) (hn2 : n = Nat.min N m) :
    ∃ w2, (Builtin.copy_ #[39, 39] 3 #[.slice (some ⟨wr.heap.size, 0, none⟩) m m, .slice (some ⟨b, off, none⟩) N cap]).run Tryz.prog (wr.alloc (.cells ((List.replicate m 0).map (Value.int .u8)).toArray T)) = .ok (.int .i64 n) w2 ∧ Row .u8 T w2 wr.heap.size (cs ++ List.replicate (m - n) 0) ∧ Below wr.heap.size wr w2 := by
  subst hn
  have hm : cs.length ≤ m := by rw [hn2]; exact Nat.min_le_right _ _
  have hrun := run_copy_row (P := Tryz.prog) (wr.alloc (.cells ((List.replicate m 0).map (Value.int .u8)).toArray T)) 39 39 3 5 wr.heap.size 0 m m ⟨b, off, none⟩ N cap _ T (cs.map (Value.int .u8)) Tryz.underlying39 Tryz.infoZ8 (heap_alloc_new _ _) (by rw [List.length_map]; exact hn2)
    (copy_src rfl (fun i hi => ((al_b wr _).cell (p := ⟨b, off + i, none⟩) hb).trans (hc i hi)) hp) (by simpa using hm) (ints_one _ _)
  refine ⟨_, hrun.trans (by rw [List.length_map]; rfl), ?_, below_setRow (al_b _ _) (Nat.le_refl _) _⟩
  unfold Row
  rw [setRow_heap _ _ _ _ T _ (heap_alloc_new _ _)]
  simp
theorem copy_text {wr : World} {n m : Nat} {rs : List Int} (T : TypeId) (hb : uByt rs) (hn2 : n = Nat.min rs.length m) :
    ∃ w2, (Builtin.copy_ #[39, 9] 3 #[.slice (some ⟨wr.heap.size, 0, none⟩) m m, .string (strOfNums rs)]).run Tryz.prog (wr.alloc (.cells ((List.replicate m 0).map (Value.int .u8)).toArray T)) = .ok (.int .i64 n) w2 ∧ Row .u8 T w2 wr.heap.size (rs.take n ++ List.replicate (m - n) 0) ∧ Below wr.heap.size wr w2 := by
  have hm : n ≤ m := by rw [hn2]; exact Nat.min_le_right _ _
  have hr : n ≤ rs.length := by rw [hn2]; exact Nat.min_le_left _ _
  have hl : ((rs.take n).map (Value.int .u8)).length = n := by simp; omega
  have hst := run_storeCells_at Tryz.prog wr.heap.size 0 T ((rs.take n).map (Value.int .u8)) 0 ((List.replicate m 0).map (Value.int .u8)).toArray (wr.alloc (.cells ((List.replicate m 0).map (Value.int .u8)).toArray T)) (heap_alloc_new _ _) (by rw [hl]; simpa using hm) (ints_one _ _)
  refine ⟨(wr.alloc (.cells ((List.replicate m 0).map (Value.int .u8)).toArray T)).setRow wr.heap.size ((rs.take n).map (Value.int .u8) ++ ((List.replicate m 0).map (Value.int .u8)).drop n).toArray, ?_, ?_, below_setRow (al_b _ _) (Nat.le_refl _) _⟩
  · rw [hl] at hst
    simp only [Nat.add_zero, List.take_zero, List.nil_append, Nat.zero_add] at hst
    have hz : (strOfNums rs).size = rs.length := strOfNums_size rs
    have hcs : List.take n (List.map (fun b : UInt8 => Value.int .u8 (b.toNat : Int)) (strOfNums rs).data.toList) = (rs.take n).map (Value.int .u8) := by
      rw [strOfNums_data, ← List.map_take, ← List.map_take, List.map_map]
      apply List.map_congr_left
      intro x hx
      have := hb x (List.mem_of_mem_take hx)
      simp only [Function.comp, UInt8.toNat_ofNat']
      congr 1
      omega
    simp only [List.map_replicate, List.drop_replicate] at hst ⊢
    cases hq : Tryz.prog.info? 5 with
    | none => have := Tryz.infoZ8; rw [hq] at this; simp at this
    | some i =>
      simp only [List.map_take] at hcs hst
      have hst2 : (storeCells ⟨wr.heap.size, 0, none⟩ (List.take n (List.map (Value.int .u8) rs)) 0).run Tryz.prog (wr.alloc (.cells (Array.replicate m (.int .u8 0)) T)) = .ok () ((wr.alloc (.cells (Array.replicate m (.int .u8 0)) T)).setRow wr.heap.size (List.take n (List.map (Value.int .u8) rs) ++ List.replicate (m - n) (Value.int .u8 0)).toArray) := by simpa using hst
      simp [Builtin.copy_, run_underlying Tryz.underlying39, Builtin.lenOf, Builtin.firstCells, sizeOf, typeInfo, hq, hz, ← hn2, hcs, hst2, goInt]
  · unfold Row
    rw [setRow_heap _ _ _ _ T _ (heap_alloc_new _ _)]
    simp
def BSt (es : List Int) (w wr : World) (ds rs : List Int) (v : Value) : Prop := es = ds ++ rs ∧ (rs ≠ [] → ds.length % 3 = 0) ∧ wr.ownsRow w.heap.size 5 1 v (b64 ds).length ((b64 ds).map (Value.int .u8)) ∧ Below w.heap.size w wr
theorem b4_keep {w wr w1 W : World} {g : Nat} (h1 : Below w.heap.size w wr) (h2 : Below wr.heap.size wr W) : Below w.heap.size w W := h1.trans (h2.mono h1.size)

set_option maxRecDepth 100000 in
set_option maxHeartbeats 8000000 in
theorem base64_any {w : World} {v : Value} {es : List Int} (hr : Reads .u8 w v es) (hb : uByt es) (hl : es.length ≤ 16777300) :
    Calls Tryz.prog 62 #[v] w fun e w' => e = .returned (.string (strOfNums (b64 es))) ∧ Below w.heap.size w w' := by
  obtain ⟨ao, cap, rfl, hxl, hxm, hxc⟩ := hr
  have HC := hide hxc
  have HBy := hide hb
  clear hxc hb
  have q1 : -9223372036854775808 ≤ ((es.length : Int) + 2) / 3 * 4 := by omega
  have q2 : ((es.length : Int) + 2) / 3 * 4 ≤ 9223372036854775807 := by omega
  go_enter Tryz.func62, Tryz.ntmps62
  go_wp2_with (at_make; refine wpList_make_row _ rfl _ _ 39 rfl 5 .u8 1 Tryz.underlying39 Tryz.infoY8 _ _ _ _ 0 ((es.length + 2) / 3 * 4) rfl rfl (by omega) (by omega) (by omega) (by omega) (by unfold maxLen; omega) ?_)
  intro w1 hrow hbel hsz
  have HO := hide (own_of_made (B := w.heap.size) hrow (Nat.le_refl _) (by unfold maxLen; omega))
  have HB := hide hbel
  clear hrow hbel
  go_wp2
  go_loopw [0, 3] (fun s0 s3 wr => ∃ (ds rs : List Int) (ao : Option Addr) (N cap : Nat) (v : Value), s3 = v ∧ s0 = .slice ao N cap ∧ N ≤ cap ∧ cap ≤ maxLen ∧ N ≤ 16777300 ∧ Hid (rs.length = N ∧ Cells .u8 w ao rs) ∧ Hid (BSt es w wr ds rs v)) (fun s0 _ _ => lenOf' s0)
  case atStart => exact ⟨[], es, ao, es.length, cap, _, rfl, rfl, hxl, hxm, hl, hide ⟨rfl, HC.out⟩, hide ⟨rfl, fun _ => rfl, HO.out, HB.out⟩⟩
  case round =>
    obtain ⟨ds, rs, ao, N, cap, v, rfl, rfl, hNc, hcm, hN, HR, HT⟩ := hrel
    unfold maxLen at hcm
    clear HO HB
    by_cases hlt : 0 < N
    · obtain ⟨b, off, rfl, hbb, hcell⟩ := (HR.out.2.below HT.out.2.2.2) (by rw [HR.out.1]; exact hlt)
      have HCell := hide hcell
      have HRb := hide (show uByt rs from fun x hx => HBy.out x (by rw [HT.out.1]; exact List.mem_append_right _ hx))
      have hne := hide (show rs ≠ [] from fun e => by have := HR.out.1; rw [e] at this; simp at this; omega)
      have hlen := hide (show (b64 ds).length ≤ 22369800 by rw [b64_len]; have := congrArg List.length HT.out.1; rw [List.length_append] at this; omega)
      clear hcell
      have hlt1 : (0 : Int) < (N : Int) := by omega
      rcases (show N = 1 ∨ N = 2 ∨ 3 ≤ N by omega) with hN1 | hN1 | hN1
      · subst hN1
        obtain ⟨a, hrs⟩ := list1' HR.out.1
        have k0 := HRb.out a (by rw [hrs]; simp)
        have HF := hide (fun W => four_any (w := W) (a := a) (b := 0) (c := 0) k0.1 k0.2 (by omega) (by omega) (by omega) (by omega))
        have HE := hide (show b64 (ds ++ rs.take 3) = b64 ds ++ [bLet (a / 4), bLet (a % 4 * 16 + 0 / 16)] by rw [b64_rest _ _ HT.out.2.1 hne.out, hrs]; simp [b64])
        have HD := hide (And.intro (three_rest HT.out.2.1 hne.out) (show rs.take 3 ++ rs.drop 3 = rs.take 3 ++ rs.drop 3 from rfl))
        obtain ⟨l0, f0⟩ : ∃ l, bLet (a / 4) = l := ⟨_, rfl⟩
        rw [f0] at HF
        obtain ⟨l1, f1⟩ : ∃ l, bLet (a % 4 * 16 + 0 / 16) = l := ⟨_, rfl⟩
        rw [f1] at HF
        obtain ⟨l2, f2⟩ : ∃ l, bLet (0 % 16 * 4 + 0 / 64) = l := ⟨_, rfl⟩
        rw [f2] at HF
        obtain ⟨l3, f3⟩ : ∃ l, bLet (0 % 64) = l := ⟨_, rfl⟩
        rw [f3] at HF
        rw [f0, f1] at HE
        clear f0 f1 f2 f3
        have HX := hide hrs
        clear hrs
        obtain ⟨w2, hcp, hg2, hb2⟩ := copy_list (wr := wr) (b := b) (off := off) (N := 1) (cap := cap) (n := 1) (m := 3) (rs := rs) (cs := [a]) 53 HCell.out hbb (by rw [HX.out]; rfl) rfl (by decide)
        have hcp : (Builtin.copy_ #[39, 39] 3 #[.slice (some ⟨wr.heap.size, 0, none⟩) 3 3, .slice (some ⟨b, off, none⟩) 1 cap]).run Tryz.prog (wr.alloc (.cells #[.int .u8 0, .int .u8 0, .int .u8 0] 53)) = .ok (.int .i64 1) w2 := hcp
        have HG : Hid (Row .u8 53 w2 wr.heap.size [a, 0, 0]) := hg2
        have c0 : w2.cell? ⟨wr.heap.size, 0, none⟩ = some (.int .u8 a) := HG.out.cell (i := 0) (by simp)
        have c1 : w2.cell? ⟨wr.heap.size, 1, none⟩ = some (.int .u8 0) := HG.out.cell (i := 1) (by simp)
        have c2 : w2.cell? ⟨wr.heap.size, 2, none⟩ = some (.int .u8 0) := HG.out.cell (i := 2) (by simp)
        have HB2 := hide hb2
        clear hg2 hb2
        go_wp2_with fail
        refine (HF.out _).mono ?_
        rintro e w3 ⟨rfl, k3⟩
        have HB3 := hide (HB2.out.trans (k3.mono HB2.out.size))
        clear k3 HB2 HG HF c0 c1 c2
        have HO3 := hide (own_keep (own_keep HT.out.2.2.1 HB3.out) (al_b w3 (.cells #[.int .u8 l0, .int .u8 l1, .int .u8 l2, .int .u8 l3] 52)))
        have HC3 := hide ((row_cells (show Row .u8 52 (w3.alloc (.cells #[.int .u8 l0, .int .u8 l1, .int .u8 l2, .int .u8 l3] 52)) w3.heap.size [l0, l1, l2, l3] from heap_alloc_new _ _)).take (n := 2) (by simp))
        have hs3 := hide (show w.heap.size ≤ w3.heap.size from Nat.le_trans HT.out.2.2.2.size HB3.out.size)
        have h63 := hide (show (b64 ds).length + [l0, l1].length ≤ maxLen ∧ ((b64 ds).length + [l0, l1].length) * 1 ≤ 140737488355328 from ⟨by unfold maxLen; simp; have := hlen.out; omega, by simp; have := hlen.out; omega⟩)
        by_cases hcn : cap = 1
        · have hcn1 : (cap : Int) = 1 := by omega
          go_wp2_with (at_builtin; refine uwpList_append_ints _ rfl _ _ 39 rfl w.heap.size 5 .u8 1 Tryz.underlying39 Tryz.infoY8 _ _ _ rfl HO3.out _ _ [l0, l1] rfl HC3.out h63.out.1 h63.out.2 (by have := hs3.out; simp; omega) ?_)
          intro v' w5 hown' hgrow
          have HO5 := hide (show w5.ownsRow w.heap.size 5 1 v' (b64 (ds ++ rs.take 3)).length ((b64 (ds ++ rs.take 3)).map (Value.int .u8)) by rw [HE.out, List.length_append, List.map_append]; exact hown')
          have HB5 := hide (bown_below (b4_keep (w1 := w) (g := 0) HT.out.2.2.2 (HB3.out.alloc HB3.out.size _)) (by have := hs3.out; simp; omega) HO3.out hgrow)
          clear hown' hgrow
          go_wp2
          go_roundw
          case rel => exact ⟨ds ++ rs.take 3, rs.drop 3, _, _, _, v', rfl, rfl, by omega, by unfold maxLen; omega, by omega, hide ⟨by rw [List.length_drop, HR.out.1], fun h => absurd h (by rw [List.length_drop, HR.out.1]; omega)⟩, hide ⟨by rw [List.append_assoc, List.take_append_drop]; exact HT.out.1, HD.out.1, HO5.out, HB5.out⟩⟩
          case measure => first | (simp [lenOf']; done) | (simp [lenOf']; omega)
        · have hcn1 : ¬ (cap : Int) = 1 := by omega
          go_wp2_with (at_builtin; refine uwpList_append_ints _ rfl _ _ 39 rfl w.heap.size 5 .u8 1 Tryz.underlying39 Tryz.infoY8 _ _ _ rfl HO3.out _ _ [l0, l1] rfl HC3.out h63.out.1 h63.out.2 (by have := hs3.out; simp; omega) ?_)
          intro v' w5 hown' hgrow
          have HO5 := hide (show w5.ownsRow w.heap.size 5 1 v' (b64 (ds ++ rs.take 3)).length ((b64 (ds ++ rs.take 3)).map (Value.int .u8)) by rw [HE.out, List.length_append, List.map_append]; exact hown')
          have HB5 := hide (bown_below (b4_keep (w1 := w) (g := 0) HT.out.2.2.2 (HB3.out.alloc HB3.out.size _)) (by have := hs3.out; simp; omega) HO3.out hgrow)
          clear hown' hgrow
          go_wp2
          go_roundw
          case rel => exact ⟨ds ++ rs.take 3, rs.drop 3, _, _, _, v', rfl, rfl, by omega, by unfold maxLen; omega, by omega, hide ⟨by rw [List.length_drop, HR.out.1], fun h => absurd h (by rw [List.length_drop, HR.out.1]; omega)⟩, hide ⟨by rw [List.append_assoc, List.take_append_drop]; exact HT.out.1, HD.out.1, HO5.out, HB5.out⟩⟩
          case measure => first | (simp [lenOf']; done) | (simp [lenOf']; omega)
      · subst hN1
        obtain ⟨a, b', hrs⟩ := list2' HR.out.1
        have k0 := HRb.out a (by rw [hrs]; simp)
        have k1 := HRb.out b' (by rw [hrs]; simp)
        have HF := hide (fun W => four_any (w := W) (a := a) (b := b') (c := 0) k0.1 k0.2 k1.1 k1.2 (by omega) (by omega))
        have HE := hide (show b64 (ds ++ rs.take 3) = b64 ds ++ [bLet (a / 4), bLet (a % 4 * 16 + b' / 16), bLet (b' % 16 * 4 + 0 / 64)] by rw [b64_rest _ _ HT.out.2.1 hne.out, hrs]; simp [b64])
        have HD := hide (And.intro (three_rest HT.out.2.1 hne.out) (show rs.take 3 ++ rs.drop 3 = rs.take 3 ++ rs.drop 3 from rfl))
        obtain ⟨l0, f0⟩ : ∃ l, bLet (a / 4) = l := ⟨_, rfl⟩
        rw [f0] at HF
        obtain ⟨l1, f1⟩ : ∃ l, bLet (a % 4 * 16 + b' / 16) = l := ⟨_, rfl⟩
        rw [f1] at HF
        obtain ⟨l2, f2⟩ : ∃ l, bLet (b' % 16 * 4 + 0 / 64) = l := ⟨_, rfl⟩
        rw [f2] at HF
        obtain ⟨l3, f3⟩ : ∃ l, bLet (0 % 64) = l := ⟨_, rfl⟩
        rw [f3] at HF
        rw [f0, f1, f2] at HE
        clear f0 f1 f2 f3
        have HX := hide hrs
        clear hrs
        obtain ⟨w2, hcp, hg2, hb2⟩ := copy_list (wr := wr) (b := b) (off := off) (N := 2) (cap := cap) (n := 2) (m := 3) (rs := rs) (cs := [a, b']) 53 HCell.out hbb (by rw [HX.out]; rfl) rfl (by decide)
        have hcp : (Builtin.copy_ #[39, 39] 3 #[.slice (some ⟨wr.heap.size, 0, none⟩) 3 3, .slice (some ⟨b, off, none⟩) 2 cap]).run Tryz.prog (wr.alloc (.cells #[.int .u8 0, .int .u8 0, .int .u8 0] 53)) = .ok (.int .i64 2) w2 := hcp
        have HG : Hid (Row .u8 53 w2 wr.heap.size [a, b', 0]) := hg2
        have c0 : w2.cell? ⟨wr.heap.size, 0, none⟩ = some (.int .u8 a) := HG.out.cell (i := 0) (by simp)
        have c1 : w2.cell? ⟨wr.heap.size, 1, none⟩ = some (.int .u8 b') := HG.out.cell (i := 1) (by simp)
        have c2 : w2.cell? ⟨wr.heap.size, 2, none⟩ = some (.int .u8 0) := HG.out.cell (i := 2) (by simp)
        have HB2 := hide hb2
        clear hg2 hb2
        go_wp2_with fail
        refine (HF.out _).mono ?_
        rintro e w3 ⟨rfl, k3⟩
        have HB3 := hide (HB2.out.trans (k3.mono HB2.out.size))
        clear k3 HB2 HG HF c0 c1 c2
        have HO3 := hide (own_keep (own_keep HT.out.2.2.1 HB3.out) (al_b w3 (.cells #[.int .u8 l0, .int .u8 l1, .int .u8 l2, .int .u8 l3] 52)))
        have HC3 := hide ((row_cells (show Row .u8 52 (w3.alloc (.cells #[.int .u8 l0, .int .u8 l1, .int .u8 l2, .int .u8 l3] 52)) w3.heap.size [l0, l1, l2, l3] from heap_alloc_new _ _)).take (n := 3) (by simp))
        have hs3 := hide (show w.heap.size ≤ w3.heap.size from Nat.le_trans HT.out.2.2.2.size HB3.out.size)
        have h63 := hide (show (b64 ds).length + [l0, l1, l2].length ≤ maxLen ∧ ((b64 ds).length + [l0, l1, l2].length) * 1 ≤ 140737488355328 from ⟨by unfold maxLen; simp; have := hlen.out; omega, by simp; have := hlen.out; omega⟩)
        by_cases hcn : cap = 2
        · have hcn1 : (cap : Int) = 2 := by omega
          go_wp2_with (at_builtin; refine uwpList_append_ints _ rfl _ _ 39 rfl w.heap.size 5 .u8 1 Tryz.underlying39 Tryz.infoY8 _ _ _ rfl HO3.out _ _ [l0, l1, l2] rfl HC3.out h63.out.1 h63.out.2 (by have := hs3.out; simp; omega) ?_)
          intro v' w5 hown' hgrow
          have HO5 := hide (show w5.ownsRow w.heap.size 5 1 v' (b64 (ds ++ rs.take 3)).length ((b64 (ds ++ rs.take 3)).map (Value.int .u8)) by rw [HE.out, List.length_append, List.map_append]; exact hown')
          have HB5 := hide (bown_below (b4_keep (w1 := w) (g := 0) HT.out.2.2.2 (HB3.out.alloc HB3.out.size _)) (by have := hs3.out; simp; omega) HO3.out hgrow)
          clear hown' hgrow
          go_wp2
          go_roundw
          case rel => exact ⟨ds ++ rs.take 3, rs.drop 3, _, _, _, v', rfl, rfl, by omega, by unfold maxLen; omega, by omega, hide ⟨by rw [List.length_drop, HR.out.1], fun h => absurd h (by rw [List.length_drop, HR.out.1]; omega)⟩, hide ⟨by rw [List.append_assoc, List.take_append_drop]; exact HT.out.1, HD.out.1, HO5.out, HB5.out⟩⟩
          case measure => first | (simp [lenOf']; done) | (simp [lenOf']; omega)
        · have hcn1 : ¬ (cap : Int) = 2 := by omega
          go_wp2_with (at_builtin; refine uwpList_append_ints _ rfl _ _ 39 rfl w.heap.size 5 .u8 1 Tryz.underlying39 Tryz.infoY8 _ _ _ rfl HO3.out _ _ [l0, l1, l2] rfl HC3.out h63.out.1 h63.out.2 (by have := hs3.out; simp; omega) ?_)
          intro v' w5 hown' hgrow
          have HO5 := hide (show w5.ownsRow w.heap.size 5 1 v' (b64 (ds ++ rs.take 3)).length ((b64 (ds ++ rs.take 3)).map (Value.int .u8)) by rw [HE.out, List.length_append, List.map_append]; exact hown')
          have HB5 := hide (bown_below (b4_keep (w1 := w) (g := 0) HT.out.2.2.2 (HB3.out.alloc HB3.out.size _)) (by have := hs3.out; simp; omega) HO3.out hgrow)
          clear hown' hgrow
          go_wp2
          go_roundw
          case rel => exact ⟨ds ++ rs.take 3, rs.drop 3, _, _, _, v', rfl, rfl, by omega, by unfold maxLen; omega, by omega, hide ⟨by rw [List.length_drop, HR.out.1], fun h => absurd h (by rw [List.length_drop, HR.out.1]; omega)⟩, hide ⟨by rw [List.append_assoc, List.take_append_drop]; exact HT.out.1, HD.out.1, HO5.out, HB5.out⟩⟩
          case measure => first | (simp [lenOf']; done) | (simp [lenOf']; omega)
      · obtain ⟨a, b', c, r, hrs⟩ := list3' (show 3 ≤ rs.length by rw [HR.out.1]; exact hN1)
        have k0 := HRb.out a (by rw [hrs]; simp)
        have k1 := HRb.out b' (by rw [hrs]; simp)
        have k2 := HRb.out c (by rw [hrs]; simp)
        have HF := hide (fun W => four_any (w := W) (a := a) (b := b') (c := c) k0.1 k0.2 k1.1 k1.2 k2.1 k2.2)
        have HE := hide (show b64 (ds ++ rs.take 3) = b64 ds ++ [bLet (a / 4), bLet (a % 4 * 16 + b' / 16), bLet (b' % 16 * 4 + c / 64), bLet (c % 64)] by rw [b64_rest _ _ HT.out.2.1 hne.out, hrs]; simp [b64])
        have HD := hide (And.intro (three_rest HT.out.2.1 hne.out) (show rs.take 3 ++ rs.drop 3 = rs.take 3 ++ rs.drop 3 from rfl))
        obtain ⟨l0, f0⟩ : ∃ l, bLet (a / 4) = l := ⟨_, rfl⟩
        rw [f0] at HF
        obtain ⟨l1, f1⟩ : ∃ l, bLet (a % 4 * 16 + b' / 16) = l := ⟨_, rfl⟩
        rw [f1] at HF
        obtain ⟨l2, f2⟩ : ∃ l, bLet (b' % 16 * 4 + c / 64) = l := ⟨_, rfl⟩
        rw [f2] at HF
        obtain ⟨l3, f3⟩ : ∃ l, bLet (c % 64) = l := ⟨_, rfl⟩
        rw [f3] at HF
        rw [f0, f1, f2, f3] at HE
        clear f0 f1 f2 f3
        have HX := hide hrs
        clear hrs
        obtain ⟨w2, hcp, hg2, hb2⟩ := copy_list (wr := wr) (b := b) (off := off) (N := N) (cap := cap) (n := 3) (m := 3) (rs := rs) (cs := [a, b', c]) 53 HCell.out hbb (by rw [HX.out]; rfl) rfl (by show 3 = min N 3; omega)
        have hcp : (Builtin.copy_ #[39, 39] 3 #[.slice (some ⟨wr.heap.size, 0, none⟩) 3 3, .slice (some ⟨b, off, none⟩) N cap]).run Tryz.prog (wr.alloc (.cells #[.int .u8 0, .int .u8 0, .int .u8 0] 53)) = .ok (.int .i64 3) w2 := hcp
        have HG : Hid (Row .u8 53 w2 wr.heap.size [a, b', c]) := hg2
        have c0 : w2.cell? ⟨wr.heap.size, 0, none⟩ = some (.int .u8 a) := HG.out.cell (i := 0) (by simp)
        have c1 : w2.cell? ⟨wr.heap.size, 1, none⟩ = some (.int .u8 b') := HG.out.cell (i := 1) (by simp)
        have c2 : w2.cell? ⟨wr.heap.size, 2, none⟩ = some (.int .u8 c) := HG.out.cell (i := 2) (by simp)
        have HB2 := hide hb2
        clear hg2 hb2
        go_wp2_with fail
        refine (HF.out _).mono ?_
        rintro e w3 ⟨rfl, k3⟩
        have HB3 := hide (HB2.out.trans (k3.mono HB2.out.size))
        clear k3 HB2 HG HF c0 c1 c2
        have HO3 := hide (own_keep (own_keep HT.out.2.2.1 HB3.out) (al_b w3 (.cells #[.int .u8 l0, .int .u8 l1, .int .u8 l2, .int .u8 l3] 52)))
        have HC3 := hide ((row_cells (show Row .u8 52 (w3.alloc (.cells #[.int .u8 l0, .int .u8 l1, .int .u8 l2, .int .u8 l3] 52)) w3.heap.size [l0, l1, l2, l3] from heap_alloc_new _ _)).take (n := 4) (by simp))
        have hs3 := hide (show w.heap.size ≤ w3.heap.size from Nat.le_trans HT.out.2.2.2.size HB3.out.size)
        have h63 := hide (show (b64 ds).length + [l0, l1, l2, l3].length ≤ maxLen ∧ ((b64 ds).length + [l0, l1, l2, l3].length) * 1 ≤ 140737488355328 from ⟨by unfold maxLen; simp; have := hlen.out; omega, by simp; have := hlen.out; omega⟩)
        by_cases hcn : cap = 3
        · have hcn1 : (cap : Int) = 3 := by omega
          go_wp2_with (at_builtin; refine uwpList_append_ints _ rfl _ _ 39 rfl w.heap.size 5 .u8 1 Tryz.underlying39 Tryz.infoY8 _ _ _ rfl HO3.out _ _ [l0, l1, l2, l3] rfl HC3.out h63.out.1 h63.out.2 (by have := hs3.out; simp; omega) ?_)
          intro v' w5 hown' hgrow
          have HO5 := hide (show w5.ownsRow w.heap.size 5 1 v' (b64 (ds ++ rs.take 3)).length ((b64 (ds ++ rs.take 3)).map (Value.int .u8)) by rw [HE.out, List.length_append, List.map_append]; exact hown')
          have HB5 := hide (bown_below (b4_keep (w1 := w) (g := 0) HT.out.2.2.2 (HB3.out.alloc HB3.out.size _)) (by have := hs3.out; simp; omega) HO3.out hgrow)
          clear hown' hgrow
          go_wp2
          go_roundw
          case rel => exact ⟨ds ++ rs.take 3, rs.drop 3, _, _, _, v', rfl, rfl, by omega, by unfold maxLen; omega, by omega, hide ⟨by rw [List.length_drop, HR.out.1], fun h => absurd h (by rw [List.length_drop, HR.out.1]; omega)⟩, hide ⟨by rw [List.append_assoc, List.take_append_drop]; exact HT.out.1, HD.out.1, HO5.out, HB5.out⟩⟩
          case measure => first | (simp [lenOf']; done) | (simp [lenOf']; omega)
        · have hcn1 : ¬ (cap : Int) = 3 := by omega
          go_wp2_with (at_builtin; refine uwpList_append_ints _ rfl _ _ 39 rfl w.heap.size 5 .u8 1 Tryz.underlying39 Tryz.infoY8 _ _ _ rfl HO3.out _ _ [l0, l1, l2, l3] rfl HC3.out h63.out.1 h63.out.2 (by have := hs3.out; simp; omega) ?_)
          intro v' w5 hown' hgrow
          have HO5 := hide (show w5.ownsRow w.heap.size 5 1 v' (b64 (ds ++ rs.take 3)).length ((b64 (ds ++ rs.take 3)).map (Value.int .u8)) by rw [HE.out, List.length_append, List.map_append]; exact hown')
          have HB5 := hide (bown_below (b4_keep (w1 := w) (g := 0) HT.out.2.2.2 (HB3.out.alloc HB3.out.size _)) (by have := hs3.out; simp; omega) HO3.out hgrow)
          clear hown' hgrow
          go_wp2
          go_roundw
          case rel => exact ⟨ds ++ rs.take 3, rs.drop 3, _, _, _, v', rfl, rfl, by omega, by unfold maxLen; omega, by omega, hide ⟨by rw [List.length_drop, HR.out.1], cells_drop HR.out.2 (by rw [HR.out.1]; exact hN1)⟩, hide ⟨by rw [List.append_assoc, List.take_append_drop]; exact HT.out.1, HD.out.1, HO5.out, HB5.out⟩⟩
          case measure => first | (simp [lenOf']; done) | (simp [lenOf']; omega)
    · have hke : N = 0 := by omega
      subst hke
      have e : rs = [] := List.eq_nil_of_length_eq_zero HR.out.1
      have e2 := HT.out.1
      rw [e, List.append_nil] at e2
      have hcv := reads_conv (breads_of_own rfl HT.out.2.2.1)
      have HB := hide HT.out.2.2.2
      have H2 := hide e2
      clear e2 e
      go_wp2
      go_ret
      exact ⟨by rw [H2.out]; rfl, HB.out⟩

end Go.Proofs.YtlpddfocihlbcaaGreatDoor
