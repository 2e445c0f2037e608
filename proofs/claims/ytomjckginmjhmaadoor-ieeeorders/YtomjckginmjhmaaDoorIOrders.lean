/- IeeeOrders' walk (mk_ieeer.py) -/
import Derived.Test.YtomjckginmjhmaaDoorIeeeL
namespace Go.Proofs.YtomjckginmjhmaaDoor
open Go.RowKit

set_option maxRecDepth 20000 in
set_option maxHeartbeats 4000000 in
theorem orders_0 {w : World} (L : Lays w) (v : Int) (v0 : 0 ≤ v) (v1 : v < 256) (hv : v % 4 = 0) (x y : Int) (x0 : 0 ≤ x) (x1 : x < 18446744073709551616) (y0 : 0 ≤ y) (y1 : y < 18446744073709551616) : Calls Tryd.prog 4 #[.int .u8 v, .int .u64 x, .int .u64 y] w fun e w' => e = .returned (.bool true) ∧ Below w.heap.size w w' := by
  have K := Below.refl w.heap.size w
  go_enter Tryd.func4, Tryd.ntmps4
  go_wp2_with fail
  with_reducible refine (lfit_0 _ v v0 v1 hv x x0 x1).mono ?_
  rintro e v133 ⟨rfl, rfl⟩
  go_wp2_with fail
  with_reducible refine (lfit_0 _ v v0 v1 hv y y0 y1).mono ?_
  rintro e v134 ⟨rfl, rfl⟩
  obtain ⟨X, hX⟩ : ∃ X, x % 65536 = X := ⟨_, rfl⟩
  obtain ⟨Y, hY⟩ : ∃ Y, y % 65536 = Y := ⟨_, rfl⟩
  have X0 : 0 ≤ X := by omega
  have X1 : X < 65536 := by omega
  have Y0 : 0 ≤ Y := by omega
  have Y1 : Y < 65536 := by omega
  rw [hX, hY]
  clear hX hY
  go_wp2_with fail
  with_reducible refine (lcmp_0 (L.below K) v v0 v1 hv X Y X0 X1 Y0 Y1).mono ?_
  rintro e v135 ⟨rfl, kb⟩
  replace K := below_trans K kb; clear kb
  generalize hA : cmpC 32768 1024 X Y = a at *
  generalize hB : cmpOk 32768 1024 X Y = b at *
  go_wp2_with fail
  with_reducible refine (lwidth_0 _ v v0 v1 hv).mono ?_
  rintro e v136 ⟨rfl, rfl⟩
  go_wp2_with fail
  with_reducible refine (rCmp_h _ X Y X0 X1 Y0 Y1).mono ?_
  rintro e v137 ⟨rfl, kb⟩
  replace K := below_trans K kb; clear kb
  rw [hA, hB]
  go_wp2_with fail
  with_reducible refine (ltotal_0 (L.below K) v v0 v1 hv X Y X0 X1 Y0 Y1).mono ?_
  rintro e v138 ⟨rfl, kb⟩
  replace K := below_trans K kb; clear kb
  go_wp2_with fail
  with_reducible refine (lwidth_0 _ v v0 v1 hv).mono ?_
  rintro e v139 ⟨rfl, rfl⟩
  go_wp2_with fail
  with_reducible refine (rTotal_h _ X Y X0 X1 Y0 Y1).mono ?_
  rintro e v140 ⟨rfl, rfl⟩
  generalize tri (rk 32768 X) (rk 32768 Y) = c at *
  go_wp2_with fail
  with_reducible refine (lnext_0 (L.below K) v v0 v1 hv X X0 X1).mono ?_
  rintro e v141 ⟨rfl, kb⟩
  replace K := below_trans K kb; clear kb
  go_wp2_with fail
  with_reducible refine (lwidth_0 _ v v0 v1 hv).mono ?_
  rintro e v142 ⟨rfl, rfl⟩
  go_wp2_with fail
  with_reducible refine (rNext_h _ X X0 X1).mono ?_
  rintro e v143 ⟨rfl, kb⟩
  replace K := below_trans K kb; clear kb
  generalize nxt 32768 1024 X = n at *
  go_wp2
  go_ret
  exact ⟨rfl, K⟩

set_option maxRecDepth 20000 in
set_option maxHeartbeats 4000000 in
theorem orders_1 {w : World} (L : Lays w) (v : Int) (v0 : 0 ≤ v) (v1 : v < 256) (hv : v % 4 = 1) (x y : Int) (x0 : 0 ≤ x) (x1 : x < 18446744073709551616) (y0 : 0 ≤ y) (y1 : y < 18446744073709551616) : Calls Tryd.prog 4 #[.int .u8 v, .int .u64 x, .int .u64 y] w fun e w' => e = .returned (.bool true) ∧ Below w.heap.size w w' := by
  have K := Below.refl w.heap.size w
  go_enter Tryd.func4, Tryd.ntmps4
  go_wp2_with fail
  with_reducible refine (lfit_1 _ v v0 v1 hv x x0 x1).mono ?_
  rintro e v144 ⟨rfl, rfl⟩
  go_wp2_with fail
  with_reducible refine (lfit_1 _ v v0 v1 hv y y0 y1).mono ?_
  rintro e v145 ⟨rfl, rfl⟩
  obtain ⟨X, hX⟩ : ∃ X, x % 4294967296 = X := ⟨_, rfl⟩
  obtain ⟨Y, hY⟩ : ∃ Y, y % 4294967296 = Y := ⟨_, rfl⟩
  have X0 : 0 ≤ X := by omega
  have X1 : X < 4294967296 := by omega
  have Y0 : 0 ≤ Y := by omega
  have Y1 : Y < 4294967296 := by omega
  rw [hX, hY]
  clear hX hY
  go_wp2_with fail
  with_reducible refine (lcmp_1 (L.below K) v v0 v1 hv X Y X0 X1 Y0 Y1).mono ?_
  rintro e v146 ⟨rfl, kb⟩
  replace K := below_trans K kb; clear kb
  generalize hA : cmpC 2147483648 8388608 X Y = a at *
  generalize hB : cmpOk 2147483648 8388608 X Y = b at *
  go_wp2_with fail
  with_reducible refine (lwidth_1 _ v v0 v1 hv).mono ?_
  rintro e v147 ⟨rfl, rfl⟩
  go_wp2_with fail
  with_reducible refine (rCmp_s _ X Y X0 X1 Y0 Y1).mono ?_
  rintro e v148 ⟨rfl, kb⟩
  replace K := below_trans K kb; clear kb
  rw [hA, hB]
  go_wp2_with fail
  with_reducible refine (ltotal_1 (L.below K) v v0 v1 hv X Y X0 X1 Y0 Y1).mono ?_
  rintro e v149 ⟨rfl, kb⟩
  replace K := below_trans K kb; clear kb
  go_wp2_with fail
  with_reducible refine (lwidth_1 _ v v0 v1 hv).mono ?_
  rintro e v150 ⟨rfl, rfl⟩
  go_wp2_with fail
  with_reducible refine (rTotal_s _ X Y X0 X1 Y0 Y1).mono ?_
  rintro e v151 ⟨rfl, rfl⟩
  generalize tri (rk 2147483648 X) (rk 2147483648 Y) = c at *
  go_wp2_with fail
  with_reducible refine (lnext_1 (L.below K) v v0 v1 hv X X0 X1).mono ?_
  rintro e v152 ⟨rfl, kb⟩
  replace K := below_trans K kb; clear kb
  go_wp2_with fail
  with_reducible refine (lwidth_1 _ v v0 v1 hv).mono ?_
  rintro e v153 ⟨rfl, rfl⟩
  go_wp2_with fail
  with_reducible refine (rNext_s _ X X0 X1).mono ?_
  rintro e v154 ⟨rfl, kb⟩
  replace K := below_trans K kb; clear kb
  generalize nxt 2147483648 8388608 X = n at *
  go_wp2
  go_ret
  exact ⟨rfl, K⟩

set_option maxRecDepth 20000 in
set_option maxHeartbeats 4000000 in
theorem orders_2 {w : World} (L : Lays w) (v : Int) (v0 : 0 ≤ v) (v1 : v < 256) (hv : v % 4 = 2) (x y : Int) (x0 : 0 ≤ x) (x1 : x < 18446744073709551616) (y0 : 0 ≤ y) (y1 : y < 18446744073709551616) : Calls Tryd.prog 4 #[.int .u8 v, .int .u64 x, .int .u64 y] w fun e w' => e = .returned (.bool true) ∧ Below w.heap.size w w' := by
  have K := Below.refl w.heap.size w
  go_enter Tryd.func4, Tryd.ntmps4
  go_wp2_with fail
  with_reducible refine (lfit_2 _ v v0 v1 hv x x0 x1).mono ?_
  rintro e v155 ⟨rfl, rfl⟩
  go_wp2_with fail
  with_reducible refine (lfit_2 _ v v0 v1 hv y y0 y1).mono ?_
  rintro e v156 ⟨rfl, rfl⟩
  obtain ⟨X, hX⟩ : ∃ X, x % 18446744073709551616 = X := ⟨_, rfl⟩
  obtain ⟨Y, hY⟩ : ∃ Y, y % 18446744073709551616 = Y := ⟨_, rfl⟩
  have X0 : 0 ≤ X := by omega
  have X1 : X < 18446744073709551616 := by omega
  have Y0 : 0 ≤ Y := by omega
  have Y1 : Y < 18446744073709551616 := by omega
  rw [hX, hY]
  clear hX hY
  go_wp2_with fail
  with_reducible refine (lcmp_2 (L.below K) v v0 v1 hv X Y X0 X1 Y0 Y1).mono ?_
  rintro e v157 ⟨rfl, kb⟩
  replace K := below_trans K kb; clear kb
  generalize hA : cmpC 9223372036854775808 4503599627370496 X Y = a at *
  generalize hB : cmpOk 9223372036854775808 4503599627370496 X Y = b at *
  go_wp2_with fail
  with_reducible refine (lwidth_2 _ v v0 v1 hv).mono ?_
  rintro e v158 ⟨rfl, rfl⟩
  go_wp2_with fail
  with_reducible refine (rCmp_d _ X Y X0 X1 Y0 Y1).mono ?_
  rintro e v159 ⟨rfl, kb⟩
  replace K := below_trans K kb; clear kb
  rw [hA, hB]
  go_wp2_with fail
  with_reducible refine (ltotal_2 (L.below K) v v0 v1 hv X Y X0 X1 Y0 Y1).mono ?_
  rintro e v160 ⟨rfl, kb⟩
  replace K := below_trans K kb; clear kb
  go_wp2_with fail
  with_reducible refine (lwidth_2 _ v v0 v1 hv).mono ?_
  rintro e v161 ⟨rfl, rfl⟩
  go_wp2_with fail
  with_reducible refine (rTotal_d _ X Y X0 X1 Y0 Y1).mono ?_
  rintro e v162 ⟨rfl, rfl⟩
  generalize tri (rk 9223372036854775808 X) (rk 9223372036854775808 Y) = c at *
  go_wp2_with fail
  with_reducible refine (lnext_2 (L.below K) v v0 v1 hv X X0 X1).mono ?_
  rintro e v163 ⟨rfl, kb⟩
  replace K := below_trans K kb; clear kb
  go_wp2_with fail
  with_reducible refine (lwidth_2 _ v v0 v1 hv).mono ?_
  rintro e v164 ⟨rfl, rfl⟩
  go_wp2_with fail
  with_reducible refine (rNext_d _ X X0 X1).mono ?_
  rintro e v165 ⟨rfl, kb⟩
  replace K := below_trans K kb; clear kb
  generalize nxt 9223372036854775808 4503599627370496 X = n at *
  go_wp2
  go_ret
  exact ⟨rfl, K⟩

set_option maxRecDepth 20000 in
set_option maxHeartbeats 4000000 in
theorem orders_3 {w : World} (L : Lays w) (v : Int) (v0 : 0 ≤ v) (v1 : v < 256) (hv : v % 4 = 3) (x y : Int) (x0 : 0 ≤ x) (x1 : x < 18446744073709551616) (y0 : 0 ≤ y) (y1 : y < 18446744073709551616) : Calls Tryd.prog 4 #[.int .u8 v, .int .u64 x, .int .u64 y] w fun e w' => e = .returned (.bool true) ∧ Below w.heap.size w w' := by
  have K := Below.refl w.heap.size w
  go_enter Tryd.func4, Tryd.ntmps4
  go_wp2_with fail
  with_reducible refine (lfit_3 _ v v0 v1 hv x x0 x1).mono ?_
  rintro e v166 ⟨rfl, rfl⟩
  go_wp2_with fail
  with_reducible refine (lfit_3 _ v v0 v1 hv y y0 y1).mono ?_
  rintro e v167 ⟨rfl, rfl⟩
  obtain ⟨X, hX⟩ : ∃ X, x % 4294967296 = X := ⟨_, rfl⟩
  obtain ⟨Y, hY⟩ : ∃ Y, y % 4294967296 = Y := ⟨_, rfl⟩
  have X0 : 0 ≤ X := by omega
  have X1 : X < 4294967296 := by omega
  have Y0 : 0 ≤ Y := by omega
  have Y1 : Y < 4294967296 := by omega
  rw [hX, hY]
  clear hX hY
  go_wp2_with fail
  with_reducible refine (lcmp_3 (L.below K) v v0 v1 hv X Y X0 X1 Y0 Y1).mono ?_
  rintro e v168 ⟨rfl, kb⟩
  replace K := below_trans K kb; clear kb
  generalize hA : cmpC 2147483648 8388608 X Y = a at *
  generalize hB : cmpOk 2147483648 8388608 X Y = b at *
  go_wp2_with fail
  with_reducible refine (lwidth_3 _ v v0 v1 hv).mono ?_
  rintro e v169 ⟨rfl, rfl⟩
  go_wp2_with fail
  with_reducible refine (rCmp_s _ X Y X0 X1 Y0 Y1).mono ?_
  rintro e v170 ⟨rfl, kb⟩
  replace K := below_trans K kb; clear kb
  rw [hA, hB]
  go_wp2_with fail
  with_reducible refine (ltotal_3 (L.below K) v v0 v1 hv X Y X0 X1 Y0 Y1).mono ?_
  rintro e v171 ⟨rfl, kb⟩
  replace K := below_trans K kb; clear kb
  go_wp2_with fail
  with_reducible refine (lwidth_3 _ v v0 v1 hv).mono ?_
  rintro e v172 ⟨rfl, rfl⟩
  go_wp2_with fail
  with_reducible refine (rTotal_s _ X Y X0 X1 Y0 Y1).mono ?_
  rintro e v173 ⟨rfl, rfl⟩
  generalize tri (rk 2147483648 X) (rk 2147483648 Y) = c at *
  go_wp2_with fail
  with_reducible refine (lnext_3 (L.below K) v v0 v1 hv X X0 X1).mono ?_
  rintro e v174 ⟨rfl, kb⟩
  replace K := below_trans K kb; clear kb
  go_wp2_with fail
  with_reducible refine (lwidth_3 _ v v0 v1 hv).mono ?_
  rintro e v175 ⟨rfl, rfl⟩
  go_wp2_with fail
  with_reducible refine (rNext_s _ X X0 X1).mono ?_
  rintro e v176 ⟨rfl, kb⟩
  replace K := below_trans K kb; clear kb
  generalize nxt 2147483648 8388608 X = n at *
  go_wp2
  go_ret
  exact ⟨rfl, K⟩

theorem orders_walk {w : World} (L : Lays w) (v : Int) (v0 : 0 ≤ v) (v1 : v < 256) (x : Int) (x0 : 0 ≤ x) (x1 : x < 18446744073709551616) (y : Int) (y0 : 0 ≤ y) (y1 : y < 18446744073709551616) : Calls Tryd.prog 4 #[.int .u8 v, .int .u64 x, .int .u64 y] w fun e w' => e = .returned (.bool true) ∧ Below w.heap.size w w' := by
  rcases (by omega : v % 4 = 0 ∨ v % 4 = 1 ∨ v % 4 = 2 ∨ v % 4 = 3) with h | h | h | h
  · exact orders_0 L v v0 v1 h x y x0 x1 y0 y1
  · exact orders_1 L v v0 v1 h x y x0 x1 y0 y1
  · exact orders_2 L v v0 v1 h x y x0 x1 y0 y1
  · exact orders_3 L v v0 v1 h x y x0 x1 y0 y1

end Go.Proofs.YtomjckginmjhmaaDoor
