/- escape: units, letter -/
import Derived.Test.YtegokdhmpopggaaDoorXLast
namespace Go.Proofs.YtegokdhmpopggaaDoor
open Go.RowKit
set_option linter.unusedVariables false

theorem xowns_reads {w : World} {B : Nat} {E : TypeId} {k : IntKind} {v : Value} {zs : List Int} {n : Nat} (hn : n = zs.length) (h : w.ownsRow B E 1 v n (zs.map (Value.int k))) : Reads k w v zs := by
  subst hn
  obtain ⟨h1, ⟨rfl, h2⟩ | ⟨g, cap, cur, rfl, h3, h4, h5, h6, h7, h8⟩⟩ := h
  · have : zs = [] := List.length_eq_zero_iff.1 h2
    subst this
    exact ⟨none, 0, rfl, Nat.le_refl _, by unfold maxLen; omega, fun h => absurd h (by simp)⟩
  · refine ⟨_, cap, rfl, h5, h6, fun hp => ⟨g, 0, rfl, (Array.getElem?_eq_some_iff.1 h4).1, fun i hi => ?_⟩⟩
    rw [Nat.zero_add, cell_of_row w g i _ _ _ h4]
    rw [Nat.mul_one] at h8
    have e : cur.toList[i]? = (zs.map (Value.int k))[i]? := by rw [← h8, List.getElem?_take_of_lt hi]
    rw [Array.getElem?_toList] at e
    rw [e]
    simp [Nt.lb, hi]
theorem Rdr.grown {B b k g : Nat} {s : ByteArray} {es : List Int} {w w' : World} {cs : Array Value} {T : TypeId} {fr : Nat × Nat} (h : Rdr B b s k es w) (hg : w.heap[g]? = some (.cells cs T fr)) (hT : T ≠ 5) (hgb : g ≠ b) (hgr : w.grownBy w' (some g)) : Rdr B b s k es w' := by
  have key : ∀ p, RdrAt B b s k p (Lib.byteCells (byE es)) w → RdrAt B b s k p (Lib.byteCells (byE es)) w' := by
    rintro p ⟨h1, v, h2, h3, h4⟩
    refine ⟨h1, v, ?_, ?_, h4⟩
    · rw [hgr.block b (Array.getElem?_eq_some_iff.1 h2).1 (fun e => hgb (by simpa using e.symm))]; exact h2
    · exact h3.kept (row := some g) hgr (Or.inr (Lib.ownBlock_ne h3 hg hT))
  rcases h with x | x
  · exact Or.inl (key _ x)
  · exact Or.inr (key _ x)
/-- what a piece's reading answers, from the state σ -/
def XPiece (B b : Nat) (s : ByteArray) (ls : List Int) (σ : XS) (k : Nat) (es : List Int) (w0 w : World) (ok : Bool) : Prop :=
  ∃ j fs, Rdr B b s j fs w ∧ j ≤ ls.length ∧ Below B w0 w ∧ ((ok = true ∧ k < j ∧ fs.length ≤ j ∧ XOn ls k σ es j .inn fs) ∨ (ok = false ∧ XBad ls k σ es j))
theorem pt_reads {w : World} {n : Int} : Reads .u16 (w.alloc (.cells #[.int .u16 n] 129)) (.slice (some ⟨w.heap.size, 0, none⟩) 1 1) [n] := by
  refine ⟨_, _, rfl, by simp, by unfold maxLen; omega, fun _ => ⟨w.heap.size, 0, rfl, by simp, fun i hi => ?_⟩⟩
  have : i = 0 := by simpa using hi
  subst this
  exact (Lib.cell_of_heap (heap_alloc_new w _) _).trans rfl
theorem pt_cells {w : World} {n : Int} : Cells .u16 (w.alloc (.cells #[.int .u16 n] 129)) (some ⟨w.heap.size, 0, none⟩) [n] := by
  obtain ⟨ao, cap, h1, _, _, h2⟩ := pt_reads (w := w) (n := n)
  cases h1
  exact h2
theorem uEnc_le3 {p : Int} (h : p < 65536) : (uEnc p).length ≤ 3 := by
  rw [uEnc_len]; split <;> (try split) <;> (try split) <;> omega

set_option maxRecDepth 100000 in
set_option maxHeartbeats 4000000 in
theorem units_rk {B b k : Nat} {s : ByteArray} {ls es : List Int} {w0 w : World} (h : RK B b s ls k es w0 w) (hes : es.length ≤ k) :
    Calls Tryd.prog 55 #[.pointer (some ⟨b, 0, none⟩)] w fun e w' => ∃ ok, e = .returned (.bool ok) ∧ XPiece B b s ls (.digs 4 0 0) k es w0 w' ok := by
  have H := hide h
  have hlen := h.len
  have hle := h.le
  clear h
  go_enter Tryd.func55, Tryd.ntmps55
  go_wp2_with fail
  refine (unit_rk H.out).mono ?_
  rintro e w1 ⟨half, ok, j, rfl, hU, h1⟩
  rcases hU with ⟨rfl, rfl, hk4, hd, hh, hlow, hon⟩ | ⟨rfl, hbad⟩
  rotate_left
  · have HP := hide (show XPiece B b s ls (.digs 4 0 0) k es w0 w1 false from ⟨j, es, h1.rd, h1.le, h1.bel, .inr ⟨rfl, hbad es⟩⟩)
    clear h1 hbad H
    go_wp2
    go_ret
    exact ⟨_, rfl, HP.out⟩
  · have HD := hide hd
    have HH := hide hh
    have HO := hide hon
    have H1 := hide h1
    have HL := hide hlow
    have hnr : 0 ≤ xNum ls k ∧ xNum ls k < 65536 := by
      have a := xTk_dig (hd 0 (by omega)); have b := xTk_dig (hd 1 (by omega)); have c := xTk_dig (hd 2 (by omega)); have d := xTk_dig (hd 3 (by omega))
      unfold xNum
      simp only [Nat.add_zero] at a
      omega
    clear hd hon h1 hlow
    cases half with
    | false =>
      have hns : ¬ (55296 ≤ xNum ls k ∧ xNum ls k ≤ 56319) := by have := HH.out; simpa using this.symm
      have hl := HL.out
      have hpt : uPt (xNum ls k) = true := uPt_iff.2 (by omega)
      have eE : xEnd (xNum ls k) 0 = (.inn, uEnc (xNum ls k)) := by unfold xEnd; rw [if_neg (by omega), if_neg hns]
      rw [eE] at HO
      have h3 := uEnc_le3 hnr.2
      clear eE hns hl hh
      obtain ⟨n, hn⟩ : ∃ n, xNum ls k = n := ⟨_, rfl⟩
      have HLst := hide (last_rk (k := k) H1.out HD.out)
      rw [hn] at HO hnr hpt h3 HLst
      have HF := hide (fromunits_any (w := w1.alloc (.cells #[.int .u16 n] 129)) (us := [n]) (ps := [n]) (t := []) pt_reads (fun x hx => by simp at hx; omega) (by simp) (by
        have := UJoin.text (ps := [n]) (fun p hp => by simp at hp; rw [hp]; exact hpt)
        have e : [n].flatMap uU = [n] := by simp [uU, hnr.2]
        rwa [e] at this))
      have eu : uFlat [n] = uEnc n := by simp [uFlat]
      simp only [List.isEmpty_nil, if_true, eu] at HF
      clear hn eu
      go_wp2_with fail
      refine HLst.out.mono ?_
      rintro e w2 ⟨rfl, rfl⟩
      go_wp2_with fail
      refine HF.out.mono ?_
      rintro e w3 ⟨rfl, k3⟩
      have H3 := hide (H1.out.on ((Below.refl _ _).alloc (Nat.le_refl _) _) |>.on k3)
      have z3 := H3.out.rd.small
      clear k3
      go_wp2_with fail
      refine (Rdr.str (xs := uEnc n) H3.out.rd (by omega) z3).mono ?_
      rintro e w4 ⟨rfl, h4, k4⟩
      have HP := hide (show XPiece B b s ls (.digs 4 0 0) k es w0 w4 true from ⟨k + 4, es ++ uEnc n, h4, hk4, H3.out.bel.trans k4, .inl ⟨rfl, by omega, by rw [List.length_append]; omega, HO.out es⟩⟩)
      clear h4 k4 H3 H1
      go_wp2
      go_ret
      exact ⟨_, rfl, HP.out⟩
    | true =>
      have hns : 55296 ≤ xNum ls k ∧ xNum ls k ≤ 56319 := by have := HH.out; simpa using this.symm
      have eE : xEnd (xNum ls k) 0 = (.second (xNum ls k), []) := by unfold xEnd; rw [if_neg (by omega), if_pos hns]
      rw [eE] at HO
      have HO2 := hide (show XOn ls k (.digs 4 0 0) es (k + 4) (.second (xNum ls k)) es by have := HO.out es; rwa [List.append_nil] at this)
      clear eE hh HO
      obtain ⟨n, hn⟩ : ∃ n, xNum ls k = n := ⟨_, rfl⟩
      have HLst := hide (last_rk (k := k) H1.out HD.out)
      rw [hn] at HO2 hnr hns HLst
      clear hn
      go_wp2_with fail
      refine HLst.out.mono ?_
      rintro e w2 ⟨rfl, rfl⟩
      go_wp2_with fail
      have H2 := hide (show RK B b s ls (k + 4) es (w2.alloc (.cells #[.int .u16 n] 129)) (w2.alloc (.cells #[.int .u16 n] 129)) from by
        have := H1.out.on ((Below.refl _ _).alloc (Nat.le_refl _) (.cells #[.int .u16 n] 129))
        exact ⟨this.rd, this.byt, this.str, this.len, this.le, Below.refl _ _, Oth.refl _ _⟩)
      have HB2 := hide (show Below B w0 (w2.alloc (.cells #[.int .u16 n] 129)) from H1.out.bel.alloc H1.out.rd.small _)
      have hbne : b < w2.heap.size := H1.out.rd.lt
      have hB2 := H1.out.rd.small
      refine (second_rk (hi := n) (by omega) H2.out).mono ?_
      rintro e w3 ⟨ok2, j2, rfl, hS, h3⟩
      rcases hS with ⟨rfl, rfl, hk6, hd2, hlo, hon2⟩ | ⟨rfl, hbad⟩
      rotate_left
      · have HP := hide (show XPiece B b s ls (.digs 4 0 0) k es w0 w3 false from ⟨j2, es, h3.rd, h3.le, HB2.out.trans h3.bel, .inr ⟨rfl, HO2.out.bad (hbad es)⟩⟩)
        clear h3 hbad H1 H2 H HB2
        go_wp2
        go_ret
        exact ⟨_, rfl, HP.out⟩
      · have hg : w3.heap[w2.heap.size]? = some (.cells #[.int .u16 n] 129 (0, 0)) := by
          rw [h3.oth.2 w2.heap.size (by simp) (by omega)]
          exact heap_alloc_new w2 _
        have hz3 : w2.heap.size < w3.heap.size := by have := h3.oth.1; simp at this; omega
        have HLs2 := hide (last_rk (k := k + 4 + 2) (w := w3) (es := es) h3 hd2)
        obtain ⟨m, hm⟩ : ∃ m, xNum ls (k + 4 + 2) = m := ⟨_, rfl⟩
        rw [hm] at HLs2 hlo hon2
        have HO3 := hide (HO2.out.trans (hon2 es))
        have HB3 := hide (HB2.out.trans h3.bel)
        have H3 := hide h3
        have HG := hide hg
        have hown : w3.ownsRow w2.heap.size 129 1 (.slice (some ⟨w2.heap.size, 0, none⟩) 1 1) 1 ([n].map (Value.int .u16)) :=
          ⟨rfl, .inr ⟨w2.heap.size, 1, #[.int .u16 n], rfl, Nat.le_refl _, hg, Nat.le_refl _, by unfold maxLen; omega, rfl, rfl⟩⟩
        have HOW := hide hown
        clear h3 hd2 hm hon2 hg hown H2 H1 H HB2
        go_wp2_with fail
        refine HLs2.out.mono ?_
        rintro e w4 ⟨rfl, rfl⟩
        go_wp2_with (first
          | (at_builtin; refine uwpList_append_ints _ rfl _ _ 131 rfl w2.heap.size 129 .u16 2 Tryd.underlying131 (by kernel_rfl) _ 1 [n] rfl (HOW.out.alloc _) (some ⟨w4.heap.size, 0, none⟩) 1 [m] rfl (pt_cells (w := w4) (n := m)) (by unfold maxLen; simp) (by simp) (by simp; omega) ?_; intro v' w5 hown' hgrow)
          | fail)
        have hgr : (w4.alloc (.cells #[.int .u16 m] 129)).grownBy w5 (some w2.heap.size) := hgrow
        have hga : (w4.alloc (.cells #[.int .u16 m] 129)).heap[w2.heap.size]? = some (.cells #[.int .u16 n] 129 (0, 0)) := (Below.heap_alloc _ _ _ hz3).trans HG.out
        have hA := H3.out.on ((Below.refl _ _).alloc (Nat.le_refl _) (.cells #[.int .u16 m] 129))
        have hR5 := hA.rd.grown hga (by decide) (by omega) hgr
        have hB5 : Below B w0 w5 := ((HB3.out.alloc H3.out.rd.small (.cells #[.int .u16 m] 129)).grown hgr (by have := H3.out.rd.small; simp; omega) (fun i e => by simp at e; omega))
        have hRd := xowns_reads (by simp) hown'
        have hu16 : uU16 ([n] ++ [m]) := fun x hx => by simp at hx; omega
        have hpt : uPt (65536 + (n - 55296) * 1024 + m - 56320) = true := uPt_iff.2 (by omega)
        have eU : uU (65536 + (n - 55296) * 1024 + m - 56320) = [n] ++ [m] := by
          unfold uU; rw [if_neg (by omega)]
          simp only [List.cons_append, List.nil_append, List.cons.injEq, and_true]
          omega
        have HF := hide (fromunits_any (w := w5) (v := v') (us := [n] ++ [m]) (ps := [65536 + (n - 55296) * 1024 + m - 56320]) (t := []) hRd hu16 (by simp) (by
          have := UJoin.text (ps := [65536 + (n - 55296) * 1024 + m - 56320]) (fun p hp => by simp at hp; rw [hp]; exact hpt)
          have e : [65536 + (n - 55296) * 1024 + m - 56320].flatMap uU = [n] ++ [m] := by simp only [List.flatMap_cons, List.flatMap_nil, List.append_nil]; exact eU
          rwa [e] at this))
        have eu : uFlat [65536 + (n - 55296) * 1024 + m - 56320] = uEnc (65536 + (n - 55296) * 1024 + m - 56320) := by simp [uFlat]
        simp only [List.isEmpty_nil, if_true, eu] at HF
        have h4 := uEnc_le (65536 + (n - 55296) * 1024 + m - 56320)
        obtain ⟨p, hp⟩ : ∃ p, 65536 + (n - 55296) * 1024 + m - 56320 = p := ⟨_, rfl⟩
        rw [hp] at HF h4 HO3
        have HR5 := hide hR5
        have HB5 := hide hB5
        clear hgr hga hA hR5 hB5 hRd hu16 hpt eU eu hp hown' hgrow
        refine HF.out.mono ?_
        rintro e w6 ⟨rfl, k6⟩
        have HR6 := hide (HR5.out.below k6)
        have HB6 := hide (HB5.out.trans (k6.mono HR5.out.small))
        have z6 := HR6.out.small
        clear k6
        go_wp2_with fail
        refine (Rdr.str (xs := uEnc p) HR6.out (by omega) z6).mono ?_
        rintro e w7 ⟨rfl, h7, k7⟩
        have HP := hide (show XPiece B b s ls (.digs 4 0 0) k es w0 w7 true from ⟨k + 4 + 6, es ++ uEnc p, h7, hk6, HB6.out.trans k7, .inl ⟨rfl, by omega, by rw [List.length_append]; omega, HO3.out⟩⟩)
        clear h7 k7 HR6 HR5 H3
        go_wp2
        go_ret
        exact ⟨_, rfl, HP.out⟩

end Go.Proofs.YtegokdhmpopggaaDoor
