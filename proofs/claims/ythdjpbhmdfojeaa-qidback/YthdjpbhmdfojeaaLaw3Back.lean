/-
  Layer 3's QidBack: whatever qid and whatever mode, it answers true and leaves what was there.
-/
import Derived.Test.YthdjpbhmdfojeaaLaw3Known
import Derived.Test.YthdjpbhmdfojeaaRefQid
import Derived.Test.YthdjpbhmdfojeaaDrawn
namespace Go.Proofs.Ythdjpbhmdfojeaa
open Go.RowKit
set_option maxRecDepth 100000
attribute [local go_sem ↓] Go.wp_at_zero Go.wp_at_succ

/-- The qid's variable, its bytes, what was there. -/
def QB (w : World) (q : Q3) (xb : Nat) (v : Value) (W : World) : Prop :=
  Has W xb 25 #[.int .u8 (q.t : Int), .int .u32 (q.v : Int), .int .u64 (q.p : Int)] ∧ W.ownsRow w.heap.size 5 1 v (qidB q).length (b8s (qidB q)) ∧ Below w.heap.size w W
section
variable {w W W' : World} {q : Q3} {xb : Nat} {v : Value}
theorem QB.below (h : QB w q xb v W) (k : Below W.heap.size W W') : QB w q xb v W' :=
  ⟨h.1.only (Only.of_below k) (by have := h.1.lt; omega), owns_only h.2.1 (Only.of_below k) (fun i hi => by have := h.2.1.lt i hi; omega), h.2.2.trans (k.mono h.2.2.size)⟩
theorem QB.at {g H : Nat} (h : QB w q xb v W) (k : Only (fun i => i = g) W W') (hg : H ≤ g) (hx : xb < H) (hv : ∀ i, v.ownBlock = some i → i < H) (hw : w.heap.size ≤ H) : QB w q xb v W' :=
  ⟨h.1.only k (by omega), owns_only h.2.1 k (fun i hi => by have := hv i hi; omega), h.2.2.trans (k.below h.2.2.size (fun i hi h => by omega))⟩
theorem QB.str (h : QB w q xb v W) : (convert 28 9 v).run Try.prog W = .ok (.string (strOf (qidB q))) W := run_str v _ _ _ W (owns_SlIs h.2.1)
theorem QB.c0 (h : QB w q xb v W) : W.cell? ⟨xb, 0, none⟩ = some (.int .u8 (q.t : Int)) := by simpa using h.1.cell 0
theorem QB.c1 (h : QB w q xb v W) : W.cell? ⟨xb, 1, none⟩ = some (.int .u32 (q.v : Int)) := by simpa using h.1.cell 1
theorem QB.c2 (h : QB w q xb v W) : W.cell? ⟨xb, 2, none⟩ = some (.int .u64 (q.p : Int)) := by simpa using h.1.cell 2
theorem QB.held (h : QB w q xb v W) : W.cell? ⟨xb, 0, none⟩ = some (.int .u8 (q.t : Int)) ∧ W.cell? ⟨xb, 1, none⟩ = some (.int .u32 (q.v : Int)) ∧ W.cell? ⟨xb, 2, none⟩ = some (.int .u64 (q.p : Int)) ∧
    (convert 28 9 v).run Try.prog W = .ok (.string (strOf (qidB q))) W := ⟨h.c0, h.c1, h.c2, h.str⟩
end

set_option maxHeartbeats 4000000 in
theorem back3_walk (q : Q3) (m : Nat) (w : World) (hq : q.Ok) (hm : m < 4294967296) : Calls Try.prog 3 #[q.val, .int .u32 (m : Int)] w fun e w' => e = .returned (.bool true) ∧ Below w.heap.size w w' := by
  have hv : q.val = .agg #[.int .u8 (q.t : Int), .int .u32 (q.v : Int), .int .u64 (q.p : Int)] := rfl
  have CP : Hid (∀ W g v, OutAt W g g v [] → Calls Try.prog 7 #[.pointer (some ⟨g, 0, none⟩), .agg #[.int .u8 (q.t : Int), .int .u32 (q.v : Int), .int .u64 (q.p : Int)]] W (OutStep W g g v (qidB q))) :=
    fun W g v h => qidput_any g g v [] q W h hq (by simp)
  have CO : Hid (∀ W, Calls Try.prog 12 #[.agg #[.int .u8 (q.t : Int), .int .u32 (q.v : Int), .int .u64 (q.p : Int)]] W fun e w' => e = .returned q.val ∧ Below W.heap.size W w') := fun W => law3of_any q W
  have CB : Hid (∀ W, Calls Try.prog 11 #[q.val] W (NewBytes W (qidB q))) := fun W => refqid_any q W hq
  have CK : Hid (∀ W lo g, InAt W lo g (qidB q) 0 → Calls Try.prog 13 #[.pointer (some ⟨g, 0, none⟩)] W fun e w' => e = .returned (.agg #[.int .u8 (q.t : Int), .int .u32 (q.v : Int), .int .u64 (q.p : Int)]) ∧ Only (fun i => i = g) W w') := fun W lo g h => by
    have k := qidtake_any lo g _ 0 W h
    have e := qTake_item q [] hq
    rw [List.append_nil] at e
    rw [e] at k
    exact k.mono fun e w' h => ⟨h.1, h.2.2⟩
  have CM : Hid (∀ W, Calls Try.prog 10 #[.int .u8 (q.t : Int)] W fun e w' => e = .returned (.int .u32 (modeOf q.t : Int)) ∧ W = w') := fun W => qidmode_any q.t W hq.t
  obtain ⟨X, hX, hX2, hX3⟩ : ∃ X, bits .and .u8 (q.t : Int) 224 = ((X : Nat) : Int) ∧ X ≤ 224 ∧ ((modeOf q.t : Nat) : Int) = (X : Int) * 16777216 := ⟨_, u8_and_nat _ 224 hq.t (by omega), Nat.and_le_right, by unfold modeOf; omega⟩
  have CT : Hid (∀ W, Calls Try.prog 9 #[.int .u32 (m : Int)] W fun e w' => e = .returned (.int .u8 (kindOf m : Int)) ∧ W = w') := fun W => qidtype_any m W hm
  have CR : Hid (∀ W, Calls Try.prog 15 #[.int .u32 (m : Int)] W fun e w' => e = .returned (.int .u8 (kindOf m : Int)) ∧ W = w') := fun W => refqidtype_any m W hm
  have CN : Hid (∀ W, Calls Try.prog 10 #[.int .u8 (kindOf m : Int)] W fun e w' => e = .returned (.int .u32 (modeOf (kindOf m) : Int)) ∧ W = w') := fun W => qidmode_any _ W (kindOf_lt m)
  have hM : bits .and .u32 (m : Int) 3758096384 = ((modeOf (kindOf m) : Nat) : Int) := by
    rw [modeOf_kindOf m hm]
    exact u32_and_nat m 3758096384 hm (by omega)
  generalize modeOf (kindOf m) = M at CN hM
  generalize kindOf m = K at CT CR CN
  generalize modeOf q.t = Y at CM hX3
  have hwX : IntKind.u32.wrap (X : Int) = (X : Int) := IntWalk.u32_in _ (by omega)
  have hwX2 : IntKind.u32.wrap ((X : Int) * 16777216) = (X : Int) * 16777216 := IntWalk.u32_in _ (by omega)
  have hl := qidB_length q
  have B0 := Lib.hid (Has.new w 25 #[.int .u8 (q.t : Int), .int .u32 (q.v : Int), .int .u64 (q.p : Int)])
  rw [hv]
  clear hv hq
  go_enter Try.func3, Try.ntmps3
  go_wp2_with fail
  refine (known3 _).mono ?_
  rintro e w1 ⟨rfl, k1⟩
  have b1 := B0.out.only (Only.of_below k1) (by simp)
  have K1 : Hid (Below w.heap.size w w1) := ((Below.refl _ w).alloc (Nat.le_refl _) _).trans (k1.mono (by simp))
  have B1 := Lib.hid b1
  have hz1 := b1.lt
  have N1 := Lib.hid (new_out w1)
  have x0 := b1.cell 0
  have x1 := b1.cell 1
  have x2 := b1.cell 2
  simp at x0 x1 x2
  clear k1 b1 B0
  go_wp2_with fail
  refine (CP.out _ w1.heap.size _ N1.out).mono ?_
  rintro e w2 ⟨v2, rfl, o2, f2, g2⟩
  have b2 := (B1.out.alloc (.cells #[.slice none 0 0] 30)).only f2 (fun h => by rcases h with h | h; omega; simp [Value.ownBlock] at h)
  have B2 := Lib.hid b2
  have O2 := Lib.hid o2
  have K2 : Hid (Below w.heap.size w w2) := (K1.out.alloc K1.out.size _).trans (f2.below (by have := K1.out.size; simp; omega) (fun i hi h => by have := K1.out.size; rcases h with h | h; omega; simp [Value.ownBlock] at h))
  clear o2 f2 g2 b2 B1 K1 N1 CP x0 x1 x2
  go_wp2_with fail
  refine (bytes_any _ _ _ _ w2 O2.out (by omega)).mono ?_
  rintro e w3 ⟨v3, rfl, a3, k3⟩
  have hz2 := K2.out.size
  have Q3' : Hid (QB w q w.heap.size v3 w3) := ⟨B2.out.only (Only.of_below k3) (by have := B2.out.lt; omega), owns_base a3 hz2, K2.out.trans (k3.mono hz2)⟩
  clear a3 k3 O2 B2 K2
  go_wp2_with fail
  refine (CT.out w3).mono ?_
  rintro e w' ⟨rfl, rfl⟩
  go_wp2_with fail
  refine (CN.out w3).mono ?_
  rintro e w' ⟨rfl, rfl⟩
  have QD : Hid (QB w q w.heap.size v3 w3.drew) := ⟨Q3'.out.1, Q3'.out.2.1.drew, Q3'.out.2.2.drew⟩
  clear CT CN Q3'
  go_upto_region 8 with fail
  refine wp_region_held_drew (S := fun w' => w'.cell? ⟨w.heap.size, 0, none⟩ = some (.int .u8 (q.t : Int)) ∧ w'.cell? ⟨w.heap.size, 1, none⟩ = some (.int .u32 (q.v : Int)) ∧ w'.cell? ⟨w.heap.size, 2, none⟩ = some (.int .u64 (q.p : Int)) ∧ (convert 28 9 v3).run Try.prog w' = .ok (.string (strOf (qidB q))) w') (by kernel_rfl) ?_ (fun hHeld => ?_)
  · exact QD.out.held
  refine takeH (i := 0) (d := 22) (v := ?_) (by kernel_rfl) (by kernel_rfl) (by kernel_rfl) rfl (fun _ _ _ h => h) (by rfl) ?_ hHeld ?_
  rotate_left
  · intro o ho w hSw
    cases ho
    go_simp
    try with_reducible rfl
  simp only [Act.put, List.setIfInBounds_toArray, List.set_cons_zero, List.set_cons_succ]
  refine takeH (i := 1) (d := 23) (v := ?_) (by kernel_rfl) (by kernel_rfl) (by kernel_rfl) rfl (fun _ _ _ h => h) (by rfl) ?_ hHeld ?_
  rotate_left
  · intro o ho w hSw
    cases ho
    go_simp
    try with_reducible rfl
  simp only [Act.put, List.setIfInBounds_toArray, List.set_cons_zero, List.set_cons_succ]
  refine takeH (i := 2) (d := 24) (v := ?_) (by kernel_rfl) (by kernel_rfl) (by kernel_rfl) rfl (fun _ _ _ h => h) (by rfl) ?_ hHeld ?_
  rotate_left
  · intro o ho w hSw
    cases ho
    go_simp
    try with_reducible rfl
  simp only [Act.put, List.setIfInBounds_toArray, List.set_cons_zero, List.set_cons_succ]
  refine wpAnyH_ready (rs := [3]) (by kernel_rfl) (by simp) ?_
  refine AllReadyH.cons rfl (fun K hK => ?_) AllReadyH.nil
  go_simp
  refine (CO.out _).mono ?_
  rintro e w4 ⟨rfl, k4⟩
  have Q4 := Lib.hid (QD.out.below k4)
  clear k4 CO QD
  try go_wp2_with fail
  refine hK.out _ _ ?_ (fun hHeld => ?_)
  · exact Q4.out.held
  clear hK K
  refine wpAnyH_ready (rs := [4]) (by kernel_rfl) (by simp) ?_
  refine AllReadyH.cons rfl (fun K hK => ?_) AllReadyH.nil
  go_simp
  refine (CB.out _).mono ?_
  rintro e w5 ⟨v5, rfl, a5, k5⟩
  have Q5 := Lib.hid (Q4.out.below k5)
  have r5 := run_str v5 _ _ _ w5 (owns_SlIs a5)
  clear a5 k5 CB Q4
  try go_wp2_with fail
  refine hK.out _ _ ?_ (fun hHeld => ?_)
  · exact Q5.out.held
  clear hK K
  refine wpAnyH_ready (rs := [5]) (by kernel_rfl) (by simp) ?_
  refine AllReadyH.cons rfl (fun K hK => ?_) AllReadyH.nil
  go_simp
  refine hK.out _ _ ?_ (fun hHeld => ?_)
  · exact Q5.out.held
  clear hK K
  clear r5
  refine takeH (i := 6) (d := 28) (v := ?_) (by kernel_rfl) (by kernel_rfl) (by kernel_rfl) rfl (fun _ _ _ h => h) (by rfl) ?_ hHeld ?_
  rotate_left
  · intro o ho w hSw
    cases ho
    go_simp
    try with_reducible rfl
  simp only [Act.put, List.setIfInBounds_toArray, List.set_cons_zero, List.set_cons_succ]
  refine takeH (i := 7) (d := 29) (v := ?_) (by kernel_rfl) (by kernel_rfl) (by kernel_rfl) rfl (fun _ _ _ h => h) (by rfl) ?_ hHeld ?_
  rotate_left
  · intro o ho w hSw
    cases ho
    go_simp
    try with_reducible rfl
  simp only [Act.put, List.setIfInBounds_toArray, List.set_cons_zero, List.set_cons_succ]
  refine takeH (i := 8) (d := 30) (v := ?_) (by kernel_rfl) (by kernel_rfl) (by kernel_rfl) rfl (fun _ _ _ h => h) (by rfl) ?_ hHeld ?_
  rotate_left
  · intro o ho w hSw
    cases ho
    go_simp
    try with_reducible rfl
  simp only [Act.put, List.setIfInBounds_toArray, List.set_cons_zero, List.set_cons_succ]
  refine takeH (i := 11) (d := 33) (v := ?_) (by kernel_rfl) (by kernel_rfl) (by kernel_rfl) rfl (fun _ _ _ h => h) (by rfl) ?_ hHeld ?_
  rotate_left
  · intro o ho w hSw
    cases ho
    go_simp
    try with_reducible rfl
  simp only [Act.put, List.setIfInBounds_toArray, List.set_cons_zero, List.set_cons_succ]
  refine wpAnyH_ready (rs := [9]) (by kernel_rfl) (by simp) ?_
  refine AllReadyH.cons rfl (fun K hK => ?_) AllReadyH.nil
  go_simp
  refine (of_any v3 (qidB q) _ _ _ (owns_SlIs Q5.out.2.1) (Nat.le_refl _) (by omega)).mono ?_
  rintro e w6 ⟨g, rfl, a6, k6⟩
  have Q6 := Lib.hid (Q5.out.below k6)
  have hg := a6.lt
  have I6 := Lib.hid a6
  clear a6 k6
  try go_wp2_with fail
  refine hK.out _ _ ?_ (fun hHeld => ?_)
  · exact Q6.out.held
  clear hK K
  refine wpAnyH_ready (rs := [10]) (by kernel_rfl) (by simp) ?_
  refine AllReadyH.cons rfl (fun K hK => ?_) AllReadyH.nil
  go_simp
  refine (CK.out _ _ g I6.out).mono ?_
  rintro e w7 ⟨rfl, k7⟩
  have Q7 := Lib.hid (Q6.out.at k7 hg.1 Q5.out.1.lt (fun i h => (Q5.out.2.1.lt i h).2) Q5.out.2.2.size)
  clear k7 Q6 Q5 I6 CK
  try go_wp2_with fail
  refine hK.out _ _ ?_ (fun hHeld => ?_)
  · exact Q7.out.held
  clear hK K
  refine takeH (i := 12) (d := 34) (v := ?_) (by kernel_rfl) (by kernel_rfl) (by kernel_rfl) rfl (fun _ _ _ h => h) (by rfl) ?_ hHeld ?_
  rotate_left
  · intro o ho w hSw
    cases ho
    go_simp
    try with_reducible rfl
  simp only [Act.put, List.setIfInBounds_toArray, List.set_cons_zero, List.set_cons_succ]
  refine takeH (i := 13) (d := 35) (v := ?_) (by kernel_rfl) (by kernel_rfl) (by kernel_rfl) rfl (fun _ _ _ h => h) (by rfl) ?_ hHeld ?_
  rotate_left
  · intro o ho w hSw
    cases ho
    go_simp
    try with_reducible rfl
  simp only [Act.put, List.setIfInBounds_toArray, List.set_cons_zero, List.set_cons_succ]
  refine takeH (i := 14) (d := 36) (v := ?_) (by kernel_rfl) (by kernel_rfl) (by kernel_rfl) rfl (fun _ _ _ h => h) (by rfl) ?_ hHeld ?_
  rotate_left
  · intro o ho w hSw
    cases ho
    go_simp
    try with_reducible rfl
  simp only [Act.put, List.setIfInBounds_toArray, List.set_cons_zero, List.set_cons_succ]
  refine takeH (i := 15) (d := 37) (v := ?_) (by kernel_rfl) (by kernel_rfl) (by kernel_rfl) rfl (fun _ _ _ h => h) (by rfl) ?_ hHeld ?_
  rotate_left
  · intro o ho w hSw
    cases ho
    go_simp
    try with_reducible rfl
  simp only [Act.put, List.setIfInBounds_toArray, List.set_cons_zero, List.set_cons_succ]
  refine takeH (i := 16) (d := 38) (v := ?_) (by kernel_rfl) (by kernel_rfl) (by kernel_rfl) rfl (fun _ _ _ h => h) (by rfl) ?_ hHeld ?_
  rotate_left
  · intro o ho w hSw
    cases ho
    go_simp
    try with_reducible rfl
  simp only [Act.put, List.setIfInBounds_toArray, List.set_cons_zero, List.set_cons_succ]
  refine wpAnyH_ready (rs := [17]) (by kernel_rfl) (by simp) ?_
  refine AllReadyH.cons rfl (fun K hK => ?_) AllReadyH.nil
  go_simp
  refine (CR.out _).mono ?_
  rintro e w8 ⟨rfl, rfl⟩
  try go_wp2_with fail
  refine hK.out _ _ ?_ (fun hHeld => ?_)
  · exact Q7.out.held
  clear hK K
  refine takeH (i := 18) (d := 40) (v := ?_) (by kernel_rfl) (by kernel_rfl) (by kernel_rfl) rfl (fun _ _ _ h => h) (by rfl) ?_ hHeld ?_
  rotate_left
  · intro o ho w hSw
    cases ho
    go_simp
    try with_reducible rfl
  simp only [Act.put, List.setIfInBounds_toArray, List.set_cons_zero, List.set_cons_succ]
  refine takeH (i := 19) (d := 41) (v := ?_) (by kernel_rfl) (by kernel_rfl) (by kernel_rfl) rfl (fun _ _ _ h => h) (by rfl) ?_ hHeld ?_
  rotate_left
  · intro o ho w hSw
    cases ho
    go_simp
    try with_reducible rfl
  simp only [Act.put, List.setIfInBounds_toArray, List.set_cons_zero, List.set_cons_succ]
  refine takeH (i := 20) (d := 42) (v := ?_) (by kernel_rfl) (by kernel_rfl) (by kernel_rfl) rfl (fun _ _ _ h => h) (by rfl) ?_ hHeld ?_
  rotate_left
  · intro o ho w hSw
    cases ho
    go_simp
    try with_reducible rfl
  simp only [Act.put, List.setIfInBounds_toArray, List.set_cons_zero, List.set_cons_succ]
  refine takeH (i := 21) (d := 43) (v := ?_) (by kernel_rfl) (by kernel_rfl) (by kernel_rfl) rfl (fun _ _ _ h => h) (by rfl) ?_ hHeld ?_
  rotate_left
  · intro o ho w hSw
    cases ho
    go_simp
    try with_reducible rfl
  simp only [Act.put, List.setIfInBounds_toArray, List.set_cons_zero, List.set_cons_succ]
  refine takeH (i := 22) (d := 44) (v := ?_) (by kernel_rfl) (by kernel_rfl) (by kernel_rfl) rfl (fun _ _ _ h => h) (by rfl) ?_ hHeld ?_
  rotate_left
  · intro o ho w hSw
    cases ho
    go_simp
    try with_reducible rfl
  simp only [Act.put, List.setIfInBounds_toArray, List.set_cons_zero, List.set_cons_succ]
  refine takeH (i := 23) (d := 45) (v := ?_) (by kernel_rfl) (by kernel_rfl) (by kernel_rfl) rfl (fun _ _ _ h => h) (by rfl) ?_ hHeld ?_
  rotate_left
  · intro o ho w hSw
    cases ho
    go_simp
    try with_reducible rfl
  simp only [Act.put, List.setIfInBounds_toArray, List.set_cons_zero, List.set_cons_succ]
  refine takeH (i := 24) (d := 46) (v := ?_) (by kernel_rfl) (by kernel_rfl) (by kernel_rfl) rfl (fun _ _ _ h => h) (by rfl) ?_ hHeld ?_
  rotate_left
  · intro o ho w hSw
    cases ho
    go_simp
    try with_reducible rfl
  simp only [Act.put, List.setIfInBounds_toArray, List.set_cons_zero, List.set_cons_succ]
  refine takeH (i := 25) (d := 47) (v := ?_) (by kernel_rfl) (by kernel_rfl) (by kernel_rfl) rfl (fun _ _ _ h => h) (by rfl) ?_ hHeld ?_
  rotate_left
  · intro o ho w hSw
    cases ho
    go_simp
    try with_reducible rfl
  simp only [Act.put, List.setIfInBounds_toArray, List.set_cons_zero, List.set_cons_succ]
  refine takeH (i := 26) (d := 48) (v := ?_) (by kernel_rfl) (by kernel_rfl) (by kernel_rfl) rfl (fun _ _ _ h => h) (by rfl) ?_ hHeld ?_
  rotate_left
  · intro o ho w hSw
    cases ho
    go_simp
    try with_reducible rfl
  simp only [Act.put, List.setIfInBounds_toArray, List.set_cons_zero, List.set_cons_succ]
  refine takeH (i := 27) (d := 49) (v := ?_) (by kernel_rfl) (by kernel_rfl) (by kernel_rfl) rfl (fun _ _ _ h => h) (by rfl) ?_ hHeld ?_
  rotate_left
  · intro o ho w hSw
    cases ho
    go_simp
    try with_reducible rfl
  simp only [Act.put, List.setIfInBounds_toArray, List.set_cons_zero, List.set_cons_succ]
  refine takeH (i := 28) (d := 50) (v := ?_) (by kernel_rfl) (by kernel_rfl) (by kernel_rfl) rfl (fun _ _ _ h => h) (by rfl) ?_ hHeld ?_
  rotate_left
  · intro o ho w hSw
    cases ho
    go_simp
    try with_reducible rfl
  simp only [Act.put, List.setIfInBounds_toArray, List.set_cons_zero, List.set_cons_succ]
  refine takeH (i := 30) (d := 52) (v := ?_) (by kernel_rfl) (by kernel_rfl) (by kernel_rfl) rfl (fun _ _ _ h => h) (by rfl) ?_ hHeld ?_
  rotate_left
  · intro o ho w hSw
    cases ho
    go_simp
    try with_reducible rfl
  simp only [Act.put, List.setIfInBounds_toArray, List.set_cons_zero, List.set_cons_succ]
  refine takeH (i := 31) (d := 53) (v := ?_) (by kernel_rfl) (by kernel_rfl) (by kernel_rfl) rfl (fun _ _ _ h => h) (by rfl) ?_ hHeld ?_
  rotate_left
  · intro o ho w hSw
    cases ho
    go_simp
    try with_reducible rfl
  simp only [Act.put, List.setIfInBounds_toArray, List.set_cons_zero, List.set_cons_succ]
  refine takeH (i := 32) (d := 54) (v := ?_) (by kernel_rfl) (by kernel_rfl) (by kernel_rfl) rfl (fun _ _ _ h => h) (by rfl) ?_ hHeld ?_
  rotate_left
  · intro o ho w hSw
    cases ho
    go_simp
    try with_reducible rfl
  simp only [Act.put, List.setIfInBounds_toArray, List.set_cons_zero, List.set_cons_succ]
  refine takeH (i := 33) (d := 55) (v := ?_) (by kernel_rfl) (by kernel_rfl) (by kernel_rfl) rfl (fun _ _ _ h => h) (by rfl) ?_ hHeld ?_
  rotate_left
  · intro o ho w hSw
    cases ho
    go_simp
    try with_reducible rfl
  simp only [Act.put, List.setIfInBounds_toArray, List.set_cons_zero, List.set_cons_succ]
  refine takeH (i := 34) (d := 56) (v := ?_) (by kernel_rfl) (by kernel_rfl) (by kernel_rfl) rfl (fun _ _ _ h => h) (by rfl) ?_ hHeld ?_
  rotate_left
  · intro o ho w hSw
    cases ho
    go_simp
    try with_reducible rfl
  simp only [Act.put, List.setIfInBounds_toArray, List.set_cons_zero, List.set_cons_succ]
  refine wpAnyH_ready (rs := [29]) (by kernel_rfl) (by simp) ?_
  refine AllReadyH.cons rfl (fun K hK => ?_) AllReadyH.nil
  go_simp
  refine (CM.out _).mono ?_
  rintro e w9 ⟨rfl, rfl⟩
  try go_wp2_with fail
  refine hK.out _ _ ?_ (fun hHeld => ?_)
  · exact Q7.out.held
  clear hK K
  refine takeH (i := 35) (d := 57) (v := ?_) (by kernel_rfl) (by kernel_rfl) (by kernel_rfl) rfl (fun _ _ _ h => h) (by rfl) ?_ hHeld ?_
  rotate_left
  · intro o ho w hSw
    cases ho
    go_simp
    try with_reducible rfl
  simp only [Act.put, List.setIfInBounds_toArray, List.set_cons_zero, List.set_cons_succ]
  refine takeH (i := 36) (d := 58) (v := ?_) (by kernel_rfl) (by kernel_rfl) (by kernel_rfl) rfl (fun _ _ _ h => h) (by rfl) ?_ hHeld ?_
  rotate_left
  · intro o ho w hSw
    cases ho
    go_simp
    try with_reducible rfl
  simp only [Act.put, List.setIfInBounds_toArray, List.set_cons_zero, List.set_cons_succ]
  refine takeH (i := 37) (d := 4) (v := ?_) (by kernel_rfl) (by kernel_rfl) (by kernel_rfl) rfl (fun _ _ _ h => h) (by rfl) ?_ hHeld ?_
  rotate_left
  · intro o ho w hSw
    cases ho
    go_simp
    try with_reducible rfl
  simp only [Act.put, List.setIfInBounds_toArray, List.set_cons_zero, List.set_cons_succ]
  refine wpAnyH_done (by kernel_rfl) ?_ _
  go_wp2
  go_ret
  exact ⟨rfl, Q7.out.2.2⟩
end Go.Proofs.Ythdjpbhmdfojeaa
