/- crucibleref11: bits, take, told -/
import Derived.Test.YtlpddfocihlbcaaGreatDoorBRefM
import Derived.Test.YtlpddfocihlbcaaGreatDoorBLives
namespace Go.Proofs.YtlpddfocihlbcaaGreatDoor
open Go.RowKit
set_option linter.unusedVariables false

theorem Tryz.infoYi : (Tryz.prog.info? 3).map (fun i => (i.zero, i.size, i.bytes)) = some (some (.int .i64 0), 1, 8) := by kernel_rfl
theorem own_none {w : World} {B : Nat} {E : TypeId} {k : IntKind} : w.ownsRow B E 1 (.slice none 0 0) 0 (([] : List Int).map (Value.int k)) := ⟨rfl, .inl ⟨rfl, rfl⟩⟩
theorem bbel_t {B w1 w2 : World} (h : Below B.heap.size B w1) (g : Below w1.heap.size w1 w2) : Below B.heap.size B w2 := h.trans (g.mono h.size)
/-- a list that is being made -/
def Mk (k : IntKind) (E : TypeId) (w wr : World) (v : Value) (xs : List Int) : Prop := wr.ownsRow w.heap.size E 1 v xs.length (xs.map (Value.int k)) ∧ Below w.heap.size w wr
theorem Mk.on {k : IntKind} {E : TypeId} {w wr w1 wz : World} {v v' : Value} {xs ys : List Int} (h : Mk k E w wr v xs) (hb : Below wr.heap.size wr w1) (ho : wz.ownsRow w.heap.size E 1 v' (xs.length + ys.length) ((xs ++ ys).map (Value.int k))) (hg : w1.grownBy wz v.ownBlock) : Mk k E w wz v' (xs ++ ys) :=
  ⟨by rw [List.length_append]; exact ho, bown_below (bbel_t h.2 hb) (Nat.le_trans h.2.size hb.size) (own_keep h.1 hb) hg⟩

set_option maxRecDepth 100000 in
set_option maxHeartbeats 8000000 in
theorem rbits_any {w : World} {v : Value} {es : List Int} (hr : Reads .u8 w v es) (hb : uByt es) (hl : es.length ≤ 67108864) :
    Calls Tryz.prog 65 #[v] w fun e w' => ∃ u, e = .returned u ∧ Mk .i64 3 w w' u (bBits es) := by
  obtain ⟨ao, cap, rfl, hxl, hxm, hxc⟩ := hr
  unfold maxLen at hxm
  have HC := hide hxc
  have HBy := hide hb
  clear hxc hb
  go_enter Tryz.func65, Tryz.ntmps65
  go_wp2
  go_loopw [3, 4] (fun s3 si wr => ∃ (i : Nat) (u : Value), s3 = u ∧ si = .int .i64 i ∧ i ≤ es.length ∧ Hid (Mk .i64 3 w wr u (bBits (es.take i)))) (fun _ si _ => es.length - (intOf si).toNat)
  case atStart => exact ⟨0, _, rfl, rfl, by omega, hide ⟨own_none, Below.refl _ _⟩⟩
  case round =>
    obtain ⟨i, u, rfl, rfl, hi, HM⟩ := hrel
    by_cases hlt : i < es.length
    · have hlt1 : (i : Int) < (es.length : Int) := by omega
      have hx := lb_byt HBy.out hlt
      have HT := hide (show bBits (es.take (i + 1)) = bBits (es.take i) ++ b8 (Nt.lb es i) by rw [List.take_succ_eq_append_getElem hlt, bBits_app, ulb_get hlt]; simp [bBits])
      have hlen := hide (show (bBits (es.take i)).length ≤ 536870912 by rw [bBits_len, List.length_take]; omega)
      obtain ⟨x, hxx⟩ : ∃ x, Nt.lb es i = x := ⟨_, rfl⟩
      rw [hxx] at hx HT
      have HX := hide hxx
      clear hxx
      go_wp2
      go_loopw [3, 5] (fun s3 sk wr => ∃ (j : Nat) (k : Int) (u : Value), s3 = u ∧ sk = .int .i64 k ∧ k = 7 - (j : Int) ∧ j ≤ 8 ∧ Hid (Mk .i64 3 w wr u (bBits (es.take i) ++ (b8 x).take j))) (fun _ sk _ => (intOf sk + 1).toNat)
      case atStart => exact ⟨0, 7, _, rfl, rfl, by omega, by omega, hide (by rw [List.take_zero, List.append_nil]; exact HM.out)⟩
      case round =>
        obtain ⟨j, k, u, rfl, rfl, hk, hj, HM⟩ := hrel
        by_cases hj8 : j < 8
        · obtain ⟨b, off, rfl, hbb, hcell⟩ := (HC.out.below HM.out.2) (by omega)
          have hcl := hcell i hlt
          rw [HX.out] at hcl
          clear hcell
          have h63 := hide (show (bBits (es.take i) ++ (b8 x).take j).length + 1 ≤ maxLen ∧ ((bBits (es.take i) ++ (b8 x).take j).length + 1) * 8 ≤ 140737488355328 by
            have := hlen.out
            have h2 : ((b8 x).take j).length ≤ 8 := by rw [List.length_take]; exact Nat.min_le_right _ 8
            rw [List.length_append]
            unfold maxLen
            constructor <;> omega)
          obtain ⟨ys, hys⟩ : ∃ ys, bBits (es.take i) ++ (b8 x).take j = ys := ⟨_, rfl⟩
          rw [hys] at HM h63
          have HY := hide hys
          clear hys
          rcases (show j = 0 ∨ j = 1 ∨ j = 2 ∨ j = 3 ∨ j = 4 ∨ j = 5 ∨ j = 6 ∨ j = 7 by omega) with rfl | rfl | rfl | rfl | rfl | rfl | rfl | rfl
          · have hk2 : k = 7 := by omega
            subst hk2
            clear hk hj hj8
            go_wp2_with (at_builtin; refine uwpList_append_ints _ rfl _ _ 59 rfl w.heap.size 3 .i64 8 Tryz.underlying59 Tryz.infoYi _ _ _ rfl (HM.out.1.alloc _) _ _ [x / 128 % 2] rfl (cells_new _ _ _ _) h63.out.1 h63.out.2 (by have := HM.out.2.size; simp; omega) ?_)
            intro u5 w5 hown hgrow
            have HM5 := hide (HM.out.on (ys := [x / 128 % 2]) (al_b _ _) (by rw [List.map_append]; exact hown) hgrow)
            rw [← HY.out, List.append_assoc, show (b8 x).take 0 ++ [x / 128 % 2] = (b8 x).take 1 from rfl] at HM5
            clear hown hgrow
            go_wp2
            go_roundw
            case rel => exact ⟨1, 6, _, rfl, rfl, by omega, by omega, HM5⟩
            case measure => simp [intOf]
          · have hk2 : k = 6 := by omega
            subst hk2
            clear hk hj hj8
            go_wp2_with (at_builtin; refine uwpList_append_ints _ rfl _ _ 59 rfl w.heap.size 3 .i64 8 Tryz.underlying59 Tryz.infoYi _ _ _ rfl (HM.out.1.alloc _) _ _ [x / 64 % 2] rfl (cells_new _ _ _ _) h63.out.1 h63.out.2 (by have := HM.out.2.size; simp; omega) ?_)
            intro u5 w5 hown hgrow
            have HM5 := hide (HM.out.on (ys := [x / 64 % 2]) (al_b _ _) (by rw [List.map_append]; exact hown) hgrow)
            rw [← HY.out, List.append_assoc, show (b8 x).take 1 ++ [x / 64 % 2] = (b8 x).take 2 from rfl] at HM5
            clear hown hgrow
            go_wp2
            go_roundw
            case rel => exact ⟨2, 5, _, rfl, rfl, by omega, by omega, HM5⟩
            case measure => simp [intOf]
          · have hk2 : k = 5 := by omega
            subst hk2
            clear hk hj hj8
            go_wp2_with (at_builtin; refine uwpList_append_ints _ rfl _ _ 59 rfl w.heap.size 3 .i64 8 Tryz.underlying59 Tryz.infoYi _ _ _ rfl (HM.out.1.alloc _) _ _ [x / 32 % 2] rfl (cells_new _ _ _ _) h63.out.1 h63.out.2 (by have := HM.out.2.size; simp; omega) ?_)
            intro u5 w5 hown hgrow
            have HM5 := hide (HM.out.on (ys := [x / 32 % 2]) (al_b _ _) (by rw [List.map_append]; exact hown) hgrow)
            rw [← HY.out, List.append_assoc, show (b8 x).take 2 ++ [x / 32 % 2] = (b8 x).take 3 from rfl] at HM5
            clear hown hgrow
            go_wp2
            go_roundw
            case rel => exact ⟨3, 4, _, rfl, rfl, by omega, by omega, HM5⟩
            case measure => simp [intOf]
          · have hk2 : k = 4 := by omega
            subst hk2
            clear hk hj hj8
            go_wp2_with (at_builtin; refine uwpList_append_ints _ rfl _ _ 59 rfl w.heap.size 3 .i64 8 Tryz.underlying59 Tryz.infoYi _ _ _ rfl (HM.out.1.alloc _) _ _ [x / 16 % 2] rfl (cells_new _ _ _ _) h63.out.1 h63.out.2 (by have := HM.out.2.size; simp; omega) ?_)
            intro u5 w5 hown hgrow
            have HM5 := hide (HM.out.on (ys := [x / 16 % 2]) (al_b _ _) (by rw [List.map_append]; exact hown) hgrow)
            rw [← HY.out, List.append_assoc, show (b8 x).take 3 ++ [x / 16 % 2] = (b8 x).take 4 from rfl] at HM5
            clear hown hgrow
            go_wp2
            go_roundw
            case rel => exact ⟨4, 3, _, rfl, rfl, by omega, by omega, HM5⟩
            case measure => simp [intOf]
          · have hk2 : k = 3 := by omega
            subst hk2
            clear hk hj hj8
            go_wp2_with (at_builtin; refine uwpList_append_ints _ rfl _ _ 59 rfl w.heap.size 3 .i64 8 Tryz.underlying59 Tryz.infoYi _ _ _ rfl (HM.out.1.alloc _) _ _ [x / 8 % 2] rfl (cells_new _ _ _ _) h63.out.1 h63.out.2 (by have := HM.out.2.size; simp; omega) ?_)
            intro u5 w5 hown hgrow
            have HM5 := hide (HM.out.on (ys := [x / 8 % 2]) (al_b _ _) (by rw [List.map_append]; exact hown) hgrow)
            rw [← HY.out, List.append_assoc, show (b8 x).take 4 ++ [x / 8 % 2] = (b8 x).take 5 from rfl] at HM5
            clear hown hgrow
            go_wp2
            go_roundw
            case rel => exact ⟨5, 2, _, rfl, rfl, by omega, by omega, HM5⟩
            case measure => simp [intOf]
          · have hk2 : k = 2 := by omega
            subst hk2
            clear hk hj hj8
            go_wp2_with (at_builtin; refine uwpList_append_ints _ rfl _ _ 59 rfl w.heap.size 3 .i64 8 Tryz.underlying59 Tryz.infoYi _ _ _ rfl (HM.out.1.alloc _) _ _ [x / 4 % 2] rfl (cells_new _ _ _ _) h63.out.1 h63.out.2 (by have := HM.out.2.size; simp; omega) ?_)
            intro u5 w5 hown hgrow
            have HM5 := hide (HM.out.on (ys := [x / 4 % 2]) (al_b _ _) (by rw [List.map_append]; exact hown) hgrow)
            rw [← HY.out, List.append_assoc, show (b8 x).take 5 ++ [x / 4 % 2] = (b8 x).take 6 from rfl] at HM5
            clear hown hgrow
            go_wp2
            go_roundw
            case rel => exact ⟨6, 1, _, rfl, rfl, by omega, by omega, HM5⟩
            case measure => simp [intOf]
          · have hk2 : k = 1 := by omega
            subst hk2
            clear hk hj hj8
            go_wp2_with (at_builtin; refine uwpList_append_ints _ rfl _ _ 59 rfl w.heap.size 3 .i64 8 Tryz.underlying59 Tryz.infoYi _ _ _ rfl (HM.out.1.alloc _) _ _ [x / 2 % 2] rfl (cells_new _ _ _ _) h63.out.1 h63.out.2 (by have := HM.out.2.size; simp; omega) ?_)
            intro u5 w5 hown hgrow
            have HM5 := hide (HM.out.on (ys := [x / 2 % 2]) (al_b _ _) (by rw [List.map_append]; exact hown) hgrow)
            rw [← HY.out, List.append_assoc, show (b8 x).take 6 ++ [x / 2 % 2] = (b8 x).take 7 from rfl] at HM5
            clear hown hgrow
            go_wp2
            go_roundw
            case rel => exact ⟨7, 0, _, rfl, rfl, by omega, by omega, HM5⟩
            case measure => simp [intOf]
          · have hk2 : k = 0 := by omega
            subst hk2
            clear hk hj hj8
            go_wp2_with (at_builtin; refine uwpList_append_ints _ rfl _ _ 59 rfl w.heap.size 3 .i64 8 Tryz.underlying59 Tryz.infoYi _ _ _ rfl (HM.out.1.alloc _) _ _ [x % 2] rfl (cells_new _ _ _ _) h63.out.1 h63.out.2 (by have := HM.out.2.size; simp; omega) ?_)
            intro u5 w5 hown hgrow
            have HM5 := hide (HM.out.on (ys := [x % 2]) (al_b _ _) (by rw [List.map_append]; exact hown) hgrow)
            rw [← HY.out, List.append_assoc, show (b8 x).take 7 ++ [x % 2] = (b8 x).take 8 from rfl] at HM5
            clear hown hgrow
            go_wp2
            go_roundw
            case rel => exact ⟨8, -1, _, rfl, rfl, by omega, by omega, HM5⟩
            case measure => simp [intOf]
        · have hk2 : k = -1 := by omega
          have hj2 : j = 8 := by omega
          subst hk2
          subst hj2
          have e : (b8 x).take 8 = b8 x := rfl
          rw [e, ← HT.out] at HM
          go_wp2
          go_roundw
          case rel => exact ⟨i + 1, _, rfl, by go_num, by omega, HM⟩
          case measure => simp [intOf]; omega
    · have hie : i = es.length := by omega
      have hlt1 : ¬ (i : Int) < (es.length : Int) := by omega
      subst hie
      rw [List.take_length] at HM
      go_wp2
      go_ret
      exact ⟨_, rfl, HM.out⟩

set_option maxRecDepth 100000 in
set_option maxHeartbeats 8000000 in
theorem rtake_any {w : World} {v : Value} {l : List Int} {a n : Nat} (hr : Reads .i64 w v l) (hb : bBin l) (hl : l.length ≤ 4294967296) (ha : a ≤ 4294967296) (hn : n ≤ 8) :
    Calls Tryz.prog 63 #[v, .int .i64 a, .int .i64 n] w fun e w' => e = .returned (.int .i64 (tk l a n)) ∧ w' = w := by
  obtain ⟨ao, cap, rfl, hxl, hxm, hxc⟩ := hr
  unfold maxLen at hxm
  have HC := hide hxc
  have HR := hide (fun j (hj : j < 9) => show 0 ≤ tk l a j ∧ tk l a j < 257 from by
    have h := tk_rng hb a j
    have h2 : (2 ^ j : Nat) ≤ 2 ^ 8 := Nat.pow_le_pow_right (by omega) (by omega)
    omega)
  have HB := hide (fun i => lb_bin hb i)
  clear hxc hb
  go_enter Tryz.func63, Tryz.ntmps63
  go_wp2
  go_loopw [7, 8] (fun s7 si wr => ∃ (j : Nat) (x : Int), s7 = .int .i64 x ∧ si = .int .i64 ((a : Int) + (j : Int)) ∧ j ≤ n ∧ Hid (x = tk l a j) ∧ w = wr) (fun _ si _ => ((a : Int) + (n : Int) - intOf si).toNat)
  case atStart => exact ⟨0, 0, rfl, by simp, by omega, rfl, rfl⟩
  case round =>
    obtain ⟨j, x, rfl, rfl, hj, HX, rfl⟩ := hrel
    have hx := HR.out j (by omega)
    rw [← HX.out] at hx
    by_cases hlt : j < n
    · have hlt1 : (a : Int) + (j : Int) < (a : Int) + (n : Int) := by omega
      have HS := hide (show x * 2 + Nt.lb l (a + j) = tk l a (j + 1) by rw [HX.out]; rfl)
      have hbb := HB.out (a + j)
      by_cases hin : a + j < l.length
      · have hin1 : (a : Int) + (j : Int) < (l.length : Int) := by omega
        obtain ⟨b, off, rfl, _, hcell⟩ := HC.out (by omega)
        have hcl := hcell (a + j) hin
        obtain ⟨y, hy⟩ : ∃ y, Nt.lb l (a + j) = y := ⟨_, rfl⟩
        rw [hy] at hcl hbb HS
        clear hcell hy
        go_wp2
        go_roundw
        case rel => exact ⟨j + 1, x * 2 + y, rfl, by go_num, by omega, HS, by first | rfl | trivial⟩
        case measure => simp [intOf]; omega
      · have hin1 : ¬ (a : Int) + (j : Int) < (l.length : Int) := by omega
        have e : Nt.lb l (a + j) = 0 := by unfold Nt.lb; rw [List.getD_eq_getElem?_getD, List.getElem?_eq_none (by omega)]; rfl
        rw [e] at HS
        clear e hbb
        go_wp2
        go_roundw
        case rel => exact ⟨j + 1, x * 2, rfl, by go_num, by omega, hide (by rw [← HS.out]; omega), by first | rfl | trivial⟩
        case measure => simp [intOf]; omega
    · have hlt1 : ¬ (a : Int) + (j : Int) < (a : Int) + (n : Int) := by omega
      have hjn : j = n := by omega
      subst hjn
      go_wp2
      go_ret
      exact ⟨by rw [HX.out]; rfl, rfl⟩

set_option maxRecDepth 100000 in
set_option maxHeartbeats 8000000 in
theorem rtold_any {w : World} {v : Value} {l al : List Int} {n K : Nat} {s : ByteArray} (hr : Reads .i64 w v l) (hb : bBin l) (hl : l.length ≤ 4294967200) (hn0 : 1 ≤ n) (hn : n ≤ 8) (hs : s = strOfNums al) (hab : uByt al) (hal : 2 ^ n ≤ al.length) (hK : ∀ j, l.length ≤ n * j → (j = 0 ∨ n * (j - 1) < l.length) → j = K) :
    Calls Tryz.prog 64 #[v, .int .i64 n, .string s] w fun e w' => e = .returned (.string (strOfNums (tl l n al K))) ∧ Below w.heap.size w w' := by
  obtain ⟨ao, cap, rfl, hxl, hxm, hxc⟩ := hr
  have R0 : Hid (Reads .i64 w (.slice ao l.length cap) l) := ⟨ao, cap, rfl, hxl, hxm, hxc⟩
  unfold maxLen at hxm
  have HT := hide (fun (W : World) (k : Below w.heap.size w W) (a : Nat) (ha : a ≤ 4294967296) => rtake_any (R0.out.below k) hb (by omega) ha hn)
  have HI := hide (fun (a : Nat) (W : World) => str_index (k := .i64) (i := tk l a n) hs hab (tk_rng hb a n).1 (by have := (tk_rng hb a n).2; omega) W)
  have HK := hide hK
  clear hxc hb hs hab hK hal
  go_enter Tryz.func64, Tryz.ntmps64
  go_wp2
  go_loopw [7, 8] (fun s7 si wr => ∃ (j a : Nat) (u : Value), s7 = u ∧ si = .int .i64 a ∧ a ≤ l.length + n ∧ Hid (a = n * j ∧ (j = 0 ∨ n * (j - 1) < l.length)) ∧ Hid (Mk .u8 5 w wr u (tl l n al j))) (fun _ si _ => ((l.length : Int) + 8 - intOf si).toNat)
  case atStart => exact ⟨0, 0, _, rfl, rfl, by omega, hide ⟨by simp, .inl rfl⟩, hide ⟨own_none, Below.refl _ _⟩⟩
  case round =>
    obtain ⟨j, a, u, rfl, rfl, hal, HA, HM⟩ := hrel
    by_cases hlt : a < l.length
    · have hlt1 : (a : Int) < (l.length : Int) := by omega
      have ct := hide (HT.out _ HM.out.2 a (by omega))
      have hi := HI.out a
      have HS := hide (show tl l n al (j + 1) = tl l n al j ++ [Nt.lb al (tk l a n).toNat] by rw [HA.out.1]; rfl)
      have hjl := hide (show j ≤ 4294967296 by
        have h := HA.out.1
        have : j ≤ n * j := Nat.le_mul_of_pos_left j (by omega)
        omega)
      obtain ⟨x, hx⟩ : ∃ x, tk l a n = x := ⟨_, rfl⟩
      rw [hx] at ct hi HS
      obtain ⟨y, hy⟩ : ∃ y, Nt.lb al x.toNat = y := ⟨_, rfl⟩
      rw [hy] at hi HS
      clear hx hy
      have h63 := hide (show (tl l n al j).length + 1 ≤ maxLen ∧ ((tl l n al j).length + 1) * 1 ≤ 140737488355328 by rw [tl_len]; unfold maxLen; have := hjl.out; constructor <;> omega)
      go_wp2_with fail
      refine ct.out.mono ?_
      rintro e w' ⟨rfl, rfl⟩
      go_wp2_with (at_builtin; refine uwpList_append_ints _ rfl _ _ 39 rfl w.heap.size 5 .u8 1 Tryz.underlying39 Tryz.infoY8 _ _ _ rfl (HM.out.1.alloc _) _ _ [y] rfl (cells_new _ _ _ _) h63.out.1 h63.out.2 (by have := HM.out.2.size; simp; omega) ?_)
      intro u5 w5 hown hgrow
      have HM5 := hide (HM.out.on (ys := [y]) (al_b _ _) (by rw [List.map_append]; exact hown) hgrow)
      rw [← HS.out] at HM5
      have HA5 := hide (show a + n = n * (j + 1) ∧ (j + 1 = 0 ∨ n * (j + 1 - 1) < l.length) from ⟨by rw [HA.out.1, Nat.mul_succ], .inr (by rw [Nat.add_sub_cancel, ← HA.out.1]; exact hlt)⟩)
      clear hown hgrow
      go_wp2
      go_roundw
      case rel => exact ⟨j + 1, a + n, _, rfl, by go_num, by omega, HA5, HM5⟩
      case measure => simp [intOf]; omega
    · have hlt1 : ¬ (a : Int) < (l.length : Int) := by omega
      have hjK := HK.out j (by rw [← HA.out.1]; omega) HA.out.2
      subst hjK
      have hcv := reads_conv (breads_of_own rfl HM.out.1)
      go_wp2
      go_ret
      exact ⟨rfl, HM.out.2⟩

theorem rhex_any {w : World} {v : Value} {es : List Int} (hr : Reads .u8 w v es) (hb : uByt es) (hl : es.length ≤ 67108864) :
    Calls Tryz.prog 13 #[v] w fun e w' => e = .returned (.string (strOfNums (bHex es))) ∧ Below w.heap.size w w' := by
  have c1 := hide (rbits_any hr hb hl)
  have c2 := hide (fun (W : World) (u : Value) (h : Reads .i64 W u (bBits es)) => rtold_any (n := 4) (K := 2 * es.length) h (bBits_bin es) (by rw [bBits_len]; omega) (by omega) (by omega) bDigs_s (uByt_lt bDigs_lt) (by decide) (fun j h1 h2 => by rw [bBits_len] at h1 h2; omega))
  rw [tl_hex hb] at c2
  go_enter Tryz.func13, Tryz.ntmps13
  go_wp2_with fail
  refine c1.out.mono ?_
  rintro e w1 ⟨u, rfl, ho, k1⟩
  have R1 := hide (breads_of_own rfl ho)
  go_wp2_with fail
  refine (c2.out _ _ R1.out).mono ?_
  rintro e w2 ⟨rfl, k2⟩
  go_wp2
  go_ret
  exact ⟨rfl, bbel_t k1 k2⟩
theorem r64_any {w : World} {v : Value} {es : List Int} (hr : Reads .u8 w v es) (hb : uByt es) (hl : es.length ≤ 67108864) :
    Calls Tryz.prog 16 #[v] w fun e w' => e = .returned (.string (strOfNums (b64 es))) ∧ Below w.heap.size w w' := by
  have c1 := hide (rbits_any hr hb hl)
  have c2 := hide (fun (W : World) (u : Value) (h : Reads .i64 W u (bBits es)) => rtold_any (n := 6) (K := (8 * es.length + 5) / 6) h (bBits_bin es) (by rw [bBits_len]; omega) (by omega) (by omega) bLets_s (uByt_lt bLets_lt) (by decide) (fun j h1 h2 => by rw [bBits_len] at h1 h2; omega))
  rw [tl_six hb] at c2
  go_enter Tryz.func16, Tryz.ntmps16
  go_wp2_with fail
  refine c1.out.mono ?_
  rintro e w1 ⟨u, rfl, ho, k1⟩
  have R1 := hide (breads_of_own rfl ho)
  go_wp2_with fail
  refine (c2.out _ _ R1.out).mono ?_
  rintro e w2 ⟨rfl, k2⟩
  go_wp2
  go_ret
  exact ⟨rfl, bbel_t k1 k2⟩

end Go.Proofs.YtlpddfocihlbcaaGreatDoor
