/- strings.ReplaceAll of one byte; a step as it is written -/
import Derived.Test.YtbkgphglojjllaaDoorFLives
import Derived.Shelf.Strings.Replace
import Derived.Shelf.Strings.Shaped
import Derived.Lib.IndexLaws
import Derived.Lib.IndexBytes
namespace Go.Proofs.YtbkgphglojjllaaDoor
open Go.RowKit Go.Shelf
set_option linter.unusedVariables false

def lays155_ren : Go.Shelf.Ren := ⟨fun | 155 => 52 | 154 => 56 | 138 => 57 | 165 => 58 | 143 => 59 | 166 => 60 | 197 => 61 | 169 => 62 | 195 => 63 | 218 => 64 | 240 => 65 | 241 => 66 | 219 => 67 | 260 => 68 | 276 => 69 | 277 => 70 | 217 => 71 | 225 => 72 | 224 => 73 | 267 => 74 | 266 => 75 | 314 => 76 | n => n, fun | 9 => 9 | 3 => 3 | 4 => 4 | 72 => 122 | 0 => 0 | 76 => 124 | 105 => 126 | 21 => 21 | 5 => 5 | 70 => 119 | 20 => 20 | 37 => 120 | 75 => 27 | 127 => 131 | 164 => 83 | 46 => 135 | 119 => 136 | 139 => 139 | 138 => 138 | 146 => 141 | 51 => 140 | 80 => 128 | n => n, fun | 1 => 13 | 3 => 14 | 4 => 15 | n => n⟩
theorem lays155 : Go.Proofs.Lays.n155 Tryd.prog lays155_ren := {
  mixed := by kernel_rfl
  f138 := Tryd.func57.trans (congrArg some (by kernel_rfl))
  f143 := Tryd.func59.trans (congrArg some (by kernel_rfl))
  f154 := Tryd.func56.trans (congrArg some (by kernel_rfl))
  f155 := Tryd.func52.trans (congrArg some (by kernel_rfl))
  f165 := Tryd.func58.trans (congrArg some (by kernel_rfl))
  f166 := Tryd.func60.trans (congrArg some (by kernel_rfl))
  f169 := Tryd.func62.trans (congrArg some (by kernel_rfl))
  f195 := Tryd.func63.trans (congrArg some (by kernel_rfl))
  f197 := Tryd.func61.trans (congrArg some (by kernel_rfl))
  f217 := Tryd.func71.trans (congrArg some (by kernel_rfl))
  f218 := Tryd.func64.trans (congrArg some (by kernel_rfl))
  f219 := Tryd.func67.trans (congrArg some (by kernel_rfl))
  f224 := Tryd.func73.trans (congrArg some (by kernel_rfl))
  f225 := Tryd.func72.trans (congrArg some (by kernel_rfl))
  f240 := Tryd.func65.trans (congrArg some (by kernel_rfl))
  f241 := Tryd.func66.trans (congrArg some (by kernel_rfl))
  f260 := Tryd.func68.trans (congrArg some (by kernel_rfl))
  f266 := Tryd.func75.trans (congrArg some (by kernel_rfl))
  f267 := Tryd.func74.trans (congrArg some (by kernel_rfl))
  f276 := Tryd.func69.trans (congrArg some (by kernel_rfl))
  f277 := Tryd.func70.trans (congrArg some (by kernel_rfl))
  f314 := Tryd.func76.trans (congrArg some (by kernel_rfl))
  t0 := Tryd.underlying0
  a0 := Tryd.isAgg0
  z0 := Tryd.sizeOf0
  v0 := Tryd.zeroValue0
  t3 := Tryd.underlying3
  a3 := Tryd.isAgg3
  z3 := Tryd.sizeOf3
  v3 := Tryd.zeroValue3
  t4 := Tryd.underlying4
  a4 := Tryd.isAgg4
  z4 := Tryd.sizeOf4
  v4 := Tryd.zeroValue4
  t5 := Tryd.underlying5
  a5 := Tryd.isAgg5
  z5 := Tryd.sizeOf5
  v5 := Tryd.zeroValue5
  t9 := Tryd.underlying9
  a9 := Tryd.isAgg9
  z9 := Tryd.sizeOf9
  v9 := Tryd.zeroValue9
  t20 := Tryd.underlying20
  a20 := Tryd.isAgg20
  z20 := Tryd.sizeOf20
  v20 := Tryd.zeroValue20
  t21 := Tryd.underlying21
  a21 := Tryd.isAgg21
  z21 := Tryd.sizeOf21
  v21 := Tryd.zeroValue21
  t37 := Tryd.underlying120
  a37 := Tryd.isAgg120
  z37 := Tryd.sizeOf120
  v37 := Tryd.zeroValue120
  t46 := Tryd.underlying135
  a46 := Tryd.isAgg135
  z46 := Tryd.sizeOf135
  v46 := Tryd.zeroValue135
  t51 := Tryd.underlying140
  a51 := Tryd.isAgg140
  z51 := Tryd.sizeOf140
  v51 := Tryd.zeroValue140
  t70 := Tryd.underlying119
  a70 := Tryd.isAgg119
  z70 := Tryd.sizeOf119
  v70 := Tryd.zeroValue119
  t72 := Tryd.underlying122
  a72 := Tryd.isAgg122
  z72 := Tryd.sizeOf122
  v72 := Tryd.zeroValue122
  t75 := Tryd.underlying27
  a75 := Tryd.isAgg27
  z75 := Tryd.sizeOf27
  v75 := Tryd.zeroValue27
  t76 := Tryd.underlying124
  a76 := Tryd.isAgg124
  z76 := Tryd.sizeOf124
  v76 := Tryd.zeroValue124
  t105 := Tryd.underlying126
  a105 := Tryd.isAgg126
  z105 := Tryd.sizeOf126
  v105 := Tryd.zeroValue126
  t119 := Tryd.underlying136
  a119 := Tryd.isAgg136
  z119 := Tryd.sizeOf136
  t127 := Tryd.underlying131
  a127 := Tryd.isAgg131
  z127 := Tryd.sizeOf131
  v127 := Tryd.zeroValue131
  t138 := Tryd.underlying138
  a138 := Tryd.isAgg138
  z138 := Tryd.sizeOf138
  v138 := Tryd.zeroValue138
  t139 := Tryd.underlying139
  a139 := Tryd.isAgg139
  z139 := Tryd.sizeOf139
  v139 := Tryd.zeroValue139
  t146 := Tryd.underlying141
  a146 := Tryd.isAgg141
  z146 := Tryd.sizeOf141
  v146 := Tryd.zeroValue141
  t164 := Tryd.underlying83
  a164 := Tryd.isAgg83
  z164 := Tryd.sizeOf83
  v164 := Tryd.zeroValue83
  g1 := by kernel_rfl
  g3 := by kernel_rfl
  g4 := by kernel_rfl }
theorem extra155 : Builder.Extra Tryd.prog lays155_ren := {
  sizeBuilder := by kernel_rfl
  liesBuilder := by kernel_rfl
  t5 := Tryd.underlying5
  a5 := Tryd.isAgg5
  z5 := Tryd.sizeOf5
  v5 := Tryd.zeroValue5
  infoByte := by kernel_rfl
  cellsByte := by kernel_rfl
  sizeByte := by kernel_rfl
  neB5 := by decide }
/-- bytealg's one number lies in the world -/
def Mx (w : World) : Prop := ∃ m, w.cell? ⟨13, 0, none⟩ = some (.int .i64 m)
theorem Mx.below {w w' : World} (h : Mx w) (hb : Below w.heap.size w w') : Mx w' := by
  obtain ⟨m, h⟩ := h
  have hl : 13 < w.heap.size := by
    rcases Nat.lt_or_ge 13 w.heap.size with g | g
    · exact g
    · simp [World.cell?, Array.getElem?_eq_none g] at h
  exact ⟨m, by rw [(ubcell0 hb).1 _ _ hl]; exact h⟩
theorem mx_of {w : World} (h : w.ShapedOpen Tryd.prog) : Mx w :=
  Go.Proofs.cell_of_shapedOpen_int (zero := #[.int .i64 0]) (t := 3) h (of_decide_eq_true (by kernel_rfl)) (by kernel_rfl) rfl (by kernel_rfl) (by kernel_rfl) Tryd.underlying3
/-- one byte in the place of another -/
def put1 (c : UInt8) (n : List UInt8) (l : List UInt8) : List UInt8 := l.flatMap fun x => if x = c then n else [x]
theorem put1_none {c : UInt8} {n l : List UInt8} (h : c ∉ l) : put1 c n l = l := by
  induction l with
  | nil => rfl
  | cons x l ih =>
    rw [List.mem_cons, not_or] at h
    show (if x = c then n else [x]) ++ put1 c n l = x :: l
    rw [if_neg (fun e => h.1 e.symm), ih h.2]; rfl
theorem put1_app (c : UInt8) (n a b : List UInt8) : put1 c n (a ++ b) = put1 c n a ++ put1 c n b := by simp [put1]
theorem put1_len {c : UInt8} {n l : List UInt8} (h : n.length ≤ 2) : (put1 c n l).length ≤ 2 * l.length := by
  induction l with
  | nil => simp [put1]
  | cons x l ih =>
    have e : put1 c n (x :: l) = (if x = c then n else [x]) ++ put1 c n l := rfl
    rw [e, List.length_append, List.length_cons]
    split <;> simp_all <;> omega
theorem replaceK_one (c : UInt8) (n : List UInt8) : ∀ (k : Nat) (s : List UInt8), s.count c = k → Lib.replaceK [c] n k s = put1 c n s := by
  intro k
  induction k with
  | zero =>
    intro s h
    rw [put1_none (List.count_eq_zero.1 h)]; rfl
  | succ k ih =>
    intro s h
    obtain ⟨i, hi⟩ := Lib.index_of_count (s := s) (old := [c]) (by rw [Lib.count_one, h]; omega)
    have hb : Lib.indexByte s c = i := by rw [← Lib.index_one]; exact hi
    obtain ⟨h1, h2⟩ := Lib.indexByte_some hb
    rw [Lib.replaceK_hit _ _ _ _ _ hi]
    have hlt : i < s.length := (List.getElem?_eq_some_iff.1 h1).1
    have hc : s[i] = c := (List.getElem?_eq_some_iff.1 h1).2
    have hn : c ∉ s.take i := by
      intro hm
      obtain ⟨j, hj, e⟩ := List.mem_iff_getElem.1 hm
      rw [List.length_take] at hj
      rw [List.getElem_take] at e
      exact h2 j (by omega) (by rw [List.getElem?_eq_getElem (by omega), e])
    have es : s = s.take i ++ c :: s.drop (i + 1) := by
      conv => lhs; rw [← List.take_append_drop i s, List.drop_eq_getElem_cons hlt, hc]
    have hk : (s.drop (i + 1)).count c = k := by
      have := h
      rw [es, List.count_append, List.count_eq_zero.2 hn, List.count_cons_self] at this
      omega
    have hd := ih _ hk
    show s.take i ++ n ++ Lib.replaceK [c] n k (s.drop (i + 1)) = _
    rw [hd]
    conv => rhs; rw [es]
    rw [put1_app, put1_none hn]
    show _ = s.take i ++ ((if c = c then n else [c]) ++ put1 c n (s.drop (i + 1)))
    rw [if_pos rfl, List.append_assoc]
theorem replaceAll_one (c : UInt8) (n s : List UInt8) (hn : [c] ≠ n) : Lib.replaceAll s [c] n = put1 c n s := by
  unfold Lib.replaceAll Lib.replace Lib.replaceNum
  rw [if_neg (by simpa using hn), if_pos (Or.inl (by decide)), Lib.count_one]
  exact replaceK_one c n _ s rfl
theorem repl_one {w : World} {s : ByteArray} {c d : UInt8} (hM : Mx w) (hs : s.size < 4294967281) :
    Calls Tryd.prog 52 #[.string s, .string ⟨#[c]⟩, .string ⟨#[126, d]⟩] w fun e w' => e = .returned (.string ⟨(put1 c [126, d] s.data.toList).toArray⟩) ∧ Below w.heap.size w w' := by
  obtain ⟨m, hm⟩ := hM
  have hb : Lib.countB s ⟨#[c]⟩ ≤ s.size := by
    have := Lib.countB_mul_le (⟨#[c]⟩ : ByteArray) (Nat.le_refl 1) s.size s (Nat.le_refl _)
    rw [show (⟨#[c]⟩ : ByteArray).size = 1 from rfl] at this
    omega
  have h := Any.strings_ReplaceAll lays155 extra155 s ⟨#[c]⟩ ⟨#[126, d]⟩ m w hs hm (Nat.le_refl 1) (by
    have e : (⟨#[126, d]⟩ : ByteArray).size = 2 := rfl
    rw [e]; omega)
  rw [show (⟨#[c]⟩ : ByteArray).data.toList = [c] from rfl, show (⟨#[126, d]⟩ : ByteArray).data.toList = [126, d] from rfl, replaceAll_one c [126, d] _ (by simp)] at h
  exact h
/-- a step as it is written -/
def wrt (l : List UInt8) : List UInt8 := 47 :: put1 47 [126, 49] (put1 126 [126, 48] l)
theorem wrt_len (l : List UInt8) : (wrt l).length ≤ 4 * l.length + 1 := by
  have h1 := put1_len (c := 126) (n := [126, 48]) (l := l) (by simp)
  have h2 := put1_len (c := 47) (n := [126, 49]) (l := put1 126 [126, 48] l) (by simp)
  rw [wrt, List.length_cons]; omega
set_option maxRecDepth 100000 in
theorem written_any {w : World} {s : ByteArray} (hM : Mx w) (hs : s.size < 2147483640) :
    Calls Tryd.prog 42 #[.string s] w fun e w' => e = .returned (.string ⟨(wrt s.data.toList).toArray⟩) ∧ Below w.heap.size w w' := by
  have hz : s.data.toList.length = s.size := (Lib.size_eq s).symm
  have hl1 := put1_len (c := 126) (n := [126, 48]) (l := s.data.toList) (by simp)
  have H1 := hide (repl_one (c := 126) (d := 48) hM (by omega : s.size < 4294967281))
  obtain ⟨t, ht⟩ : ∃ t : ByteArray, t = ⟨(put1 126 [126, 48] s.data.toList).toArray⟩ := ⟨_, rfl⟩
  have htl : t.data.toList = put1 126 [126, 48] s.data.toList := by rw [ht]
  have hts : t.size < 4294967281 := by rw [Lib.size_eq, htl]; omega
  have H2 := hide (fun (w1 : World) (hb : Below w.heap.size w w1) => repl_one (s := t) (c := 47) (d := 49) (hM.below hb) hts)
  rw [← ht] at H1
  obtain ⟨q, hq⟩ : ∃ q : ByteArray, q = ⟨(put1 47 [126, 49] t.data.toList).toArray⟩ := ⟨_, rfl⟩
  have hl2 := put1_len (c := 47) (n := [126, 49]) (l := t.data.toList) (by simp)
  have hqs : q.size ≤ 2 * t.data.toList.length := by rw [hq, Lib.size_eq]; exact hl2
  rw [htl] at hqs
  simp only [← hq] at H2
  have er : (⟨(wrt s.data.toList).toArray⟩ : ByteArray) = ⟨#[47]⟩ ++ q := by
    rw [hq, htl]
    apply ByteArray.ext
    rw [ByteArray.data_append]
    simp [wrt]
  rw [er]
  have q1 : ¬ ((9223372036854775807 : Int) < 1 + (q.size : Int)) := by omega
  have q2 : 1 + (q.size : Int) ≤ 9223372036854775807 := by omega
  have q3 : ¬ (9223372036854775807 < 1 + q.size) := by omega
  clear hM hz hl1 ht htl hts hq hl2 hqs er
  go_enter Tryd.func42, Tryd.ntmps42
  go_wp2_with fail
  refine H1.out.mono ?_
  rintro e w1 ⟨rfl, hb1⟩
  have K1 := hide hb1
  clear hb1 H1
  go_wp2_with fail
  refine (H2.out _ K1.out).mono ?_
  rintro e w2 ⟨rfl, hb2⟩
  have K2 := hide (K1.out.trans (hb2.mono K1.out.size))
  clear hb2 H2 K1
  go_wp2
  go_ret
  exact ⟨rfl, K2.out⟩
theorem wrIs_any {w : World} {s : ByteArray} (hM : Mx w) (hs : s.size < 2147483640) : WrIs w s ⟨(wrt s.data.toList).toArray⟩ :=
  fun w' hb => written_any (hM.below hb) hs

end Go.Proofs.YtbkgphglojjllaaDoor
