/-
  Package disk: Twin.
-/
import Derived.Test.YtddllgbficjaoaaDiskN
import Derived.Test.YtddllgbficjaoaaDrawn
import Derived.Deep.CutRange
namespace Go.Proofs.Ytddllgbficjaoaa
open Go.RowKit Go.Lib
set_option maxRecDepth 100000

/-- A copy that was made behind w. -/
def TRow (w : World) (e : TypeId) (size n : Nat) (v : Value) (us : List Value) (W : World) : Prop := W.ownsRow 0 e size v n us ∧ ∀ i, v.ownBlock = some i → w.heap.size < i ∧ i < W.heap.size
section
variable {w W W' : World} {e : TypeId} {size n : Nat} {v : Value} {us : List Value} {S : Nat → Prop}
theorem TRow.below (h : TRow w e size n v us W) (k : Below W.heap.size W W') : TRow w e size n v us W' :=
  ⟨owns_only h.1 (S := fun i => W.heap.size ≤ i) (Only.of_below k) (fun i hi e => by have := (h.2 i hi).2; omega), fun i hi => ⟨(h.2 i hi).1, Nat.lt_of_lt_of_le (h.2 i hi).2 k.size⟩⟩
theorem TRow.new (h : W'.ownsRow W.heap.size e size v n us) (hs : w.heap.size < W.heap.size) : TRow w e size n v us W' :=
  ⟨owns_base h (Nat.zero_le _), fun i hi => ⟨by have := (h.lt i hi).1; omega, (h.lt i hi).2⟩⟩
end
/-- No block in common. -/
def Apart (u v : Value) : Prop := ∀ i, u.ownBlock = some i → v.ownBlock ≠ some i
theorem Apart.symm {u v : Value} (h : Apart u v) : Apart v u := fun i hi hj => h i hj hi
theorem Apart.new {w W W' : World} {e f : TypeId} {s1 s2 n m : Nat} {u v : Value} {us vs : List Value} (h : TRow w e s1 n u us W) (h' : W'.ownsRow W.heap.size f s2 v m vs) : Apart u v := fun i hi hj => by
  have := (h.2 i hi).2
  have := (h'.lt i hj).1
  omega

section
variable {w W : World} {F E : Nat → Prop} {g : Nat} {s : D} {gk ck gs cs : Nat} {pv hv vk vs vp : Value}
theorem DkAt.twin (h : DkAt w F E g s gk ck gs cs pv hv) (k : Only (fun _ => False) w W) (hb : Has W w.heap.size 66 #[.int .i64 (s.size : Int), .slice (some ⟨gk, 0, none⟩) s.kept.length ck, .slice (some ⟨gs, 0, none⟩) s.kept.length cs, pv, .int .i64 (s.writes : Int), .bool s.off, .int .i64 (s.armed : Int), hv])
    (rk : TRow w 9 1 s.kept.length vk (svs s.kept) W) (rs : TRow w 9 1 s.kept.length vs (svs s.seen) W) (rp : TRow w 68 2 s.pend.length vp (wvs s.pend) W) (ap : Apart vk vs) :
    Dk (((W.setCell ⟨w.heap.size, 1, none⟩ vk).setCell ⟨w.heap.size, 2, none⟩ vs).setCell ⟨w.heap.size, 3, none⟩ vp) (fun i => w.heap.size ≤ i ∧ i < W.heap.size) E w.heap.size s ∧
    Below w.heap.size w (((W.setCell ⟨w.heap.size, 1, none⟩ vk).setCell ⟨w.heap.size, 2, none⟩ vs).setCell ⟨w.heap.size, 3, none⟩ vp) := by
  obtain ⟨gk', ck', rfl, _⟩ := owns_some rk.1 h.ok.pos
  obtain ⟨gs', cs', rfl, _⟩ := owns_some rs.1 h.ok.pos
  have k1 : Only (fun i => i = w.heap.size) W (((W.setCell ⟨w.heap.size, 1, none⟩ (.slice (some ⟨gk', 0, none⟩) s.kept.length ck')).setCell ⟨w.heap.size, 2, none⟩ (.slice (some ⟨gs', 0, none⟩) s.kept.length cs')).setCell ⟨w.heap.size, 3, none⟩ vp) :=
    (((Only.refl (fun i => i = w.heap.size) W).setCell (p := ⟨w.heap.size, 1, none⟩) (fun _ => rfl) _).setCell (p := ⟨w.heap.size, 2, none⟩) (fun _ => rfl) _).setCell (p := ⟨w.heap.size, 3, none⟩) (fun _ => rfl) _
  have hset := ((hb.set 1 (.slice (some ⟨gk', 0, none⟩) s.kept.length ck')).set 2 (.slice (some ⟨gs', 0, none⟩) s.kept.length cs')).set 3 vp
  have hz := k1.size
  have hbl := hb.lt
  have a1 := rk.2 gk' rfl
  have a2 := rs.2 gs' rfl
  have ks := k.size
  have sz : (((W.setCell ⟨w.heap.size, 1, none⟩ (.slice (some ⟨gk', 0, none⟩) s.kept.length ck')).setCell ⟨w.heap.size, 2, none⟩ (.slice (some ⟨gs', 0, none⟩) s.kept.length cs')).setCell ⟨w.heap.size, 3, none⟩ vp).heap.size = W.heap.size := by simp [World.setCell]
  refine ⟨⟨gk', ck', gs', cs', vp, hv, ?_⟩, (k.below (Nat.le_refl _) (fun _ _ h => h)).trans (k1.below ks (fun i hi e => by omega))⟩
  refine ⟨hset, owns_only rk.1 k1 (fun i hi e => by have := (rk.2 i hi).1; omega), ?_, owns_only rp.1 k1 (fun i hi e => by have := (rp.2 i hi).1; omega), (h.keep.only k (fun _ _ _ h => h)).only k1 (fun i _ hE e => by have := h.lte i hE; omega), fun e => ap gk' rfl (by rw [e]; rfl), ⟨Nat.le_refl _, hbl⟩, ⟨by omega, a1.2⟩, ⟨by omega, a2.2⟩, fun i hi => ⟨by have := (rp.2 i hi).1; omega, (rp.2 i hi).2⟩, fun i hi => by rw [sz]; exact hi.2, fun i hi => by have := h.lte i hi; rw [sz]; omega, fun i hE hi => by have := h.lte i hE; omega, h.ok⟩
  have := owns_only rs.1 k1 (fun i hi e => by have := (rs.2 i hi).1; omega)
  unfold StrRow
  rw [D.seen_length]
  exact this
end

def TwinDone (w : World) (E : Nat → Prop) (s : D) (wx : World) : Prop := ∃ F, Dk wx F E w.heap.size s ∧ (∀ i, F i → w.heap.size ≤ i) ∧ Below w.heap.size w wx
set_option maxHeartbeats 8000000 in
theorem twin_any (F E : Nat → Prop) (g : Nat) (s : D) (w : World) (h : Dk w F E g s) (hn : s.pend.length ≤ 1000000) :
    Calls Try.prog 16 #[.pointer (some ⟨g, 0, none⟩)] w fun e w' => e = .returned (.pointer (some ⟨w.heap.size, 0, none⟩)) ∧ TwinDone w E s w' := by
  obtain ⟨gk, ck, gs, cs, pv, hv, h⟩ := h
  obtain ⟨Ap, cp, hpe, _⟩ := RwIs.of_own h.pend
  obtain ⟨Ah, ch, hhe, _⟩ := h.keep
  have c0 := h.has.cell 0
  have c1 := h.has.cell 1
  have c2 := h.has.cell 2
  have c3 := h.has.cell 3
  have c4 := h.has.cell 4
  have c5 := h.has.cell 5
  have c6 := h.has.cell 6
  have c7 := h.has.cell 7
  have hgl := h.has.lt
  rw [hpe] at c3
  rw [hhe] at c7
  simp at c0 c1 c2 c3 c4 c5 c6 c7
  have hm := h.ok.most
  obtain ⟨w1, hw1⟩ : ∃ w1, w1 = w.alloc (.cells #[.int .i64 (s.size : Int), .slice (some ⟨gk, 0, none⟩) s.kept.length ck, .slice (some ⟨gs, 0, none⟩) s.kept.length cs, .slice Ap s.pend.length cp, .int .i64 (s.writes : Int), .bool s.off, .int .i64 (s.armed : Int), .slice Ah s.keep.length ch] 66) := ⟨_, rfl⟩
  have s1 : w1.heap.size = w.heap.size + 1 := by rw [hw1]; simp
  have k0 : Only (fun _ => False) w w1.drew := by rw [hw1]; exact ((Only.refl _ w).alloc _).drew
  have HB0 : Has w1.drew w.heap.size 66 #[.int .i64 (s.size : Int), .slice (some ⟨gk, 0, none⟩) s.kept.length ck, .slice (some ⟨gs, 0, none⟩) s.kept.length cs, pv, .int .i64 (s.writes : Int), .bool s.off, .int .i64 (s.armed : Int), hv] := by
    rw [hw1, hpe, hhe]
    exact Has.new w _ _
  have CK : Hid (∀ W, Only (fun _ => False) w W → Calls Try.prog 37 #[.slice (some ⟨gk, 0, none⟩) s.kept.length ck] W (CopyStep W 9 1 s.kept.length (svs s.kept))) := fun W k => cloneS_any _ _ _ _ W ((RwIs.of_own h.kept).only k (fun _ _ _ h => h)) (by simp [svs_length]) (svs_one _) (by omega)
  have CS : Hid (∀ W, Only (fun _ => False) w W → Calls Try.prog 37 #[.slice (some ⟨gs, 0, none⟩) s.kept.length cs] W (CopyStep W 9 1 s.kept.length (svs s.seen))) := fun W k => by
    have := h.seen
    unfold StrRow at this
    rw [D.seen_length] at this
    exact cloneS_any _ _ _ _ W ((RwIs.of_own this).only k (fun _ _ _ h => h)) (by simp [svs_length, D.seen_length]) (svs_one _) (by omega)
  have CP : Hid (∀ W, Only (fun _ => False) w W → Calls Try.prog 38 #[.slice Ap s.pend.length cp] W (CopyStep W 68 2 s.pend.length (wvs s.pend))) := fun W k => by
    have := (RwIs.of_own h.pend).only k (fun _ _ _ h => h)
    rw [hpe] at this
    exact cloneW_any _ _ _ _ W this (wvs_length _) (wvs_one _) (by omega)
  have HS : Hid (∀ W, Only (fun _ => False) w W → W.cell? ⟨g, 1, none⟩ = some (.slice (some ⟨gk, 0, none⟩) s.kept.length ck) ∧ W.cell? ⟨g, 2, none⟩ = some (.slice (some ⟨gs, 0, none⟩) s.kept.length cs) ∧ W.cell? ⟨g, 3, none⟩ = some (.slice Ap s.pend.length cp)) := fun W k =>
    ⟨(k.cell (p := ⟨g, 1, none⟩) hgl (fun h => h)).trans c1, (k.cell (p := ⟨g, 2, none⟩) hgl (fun h => h)).trans c2, (k.cell (p := ⟨g, 3, none⟩) hgl (fun h => h)).trans c3⟩
  have HSs : Hid (∀ W W', Only (fun _ => False) w W → Only (fun i => i = w.heap.size) W W' → W'.cell? ⟨g, 1, none⟩ = some (.slice (some ⟨gk, 0, none⟩) s.kept.length ck) ∧ W'.cell? ⟨g, 2, none⟩ = some (.slice (some ⟨gs, 0, none⟩) s.kept.length cs) ∧ W'.cell? ⟨g, 3, none⟩ = some (.slice Ap s.pend.length cp)) := fun W W' k k2 => by
    have hs := k.size
    obtain ⟨a, b, c⟩ := HS.out W k
    exact ⟨(k2.cell (p := ⟨g, 1, none⟩) (by simp; omega) (by simp; omega)).trans a, (k2.cell (p := ⟨g, 2, none⟩) (by simp; omega) (by simp; omega)).trans b, (k2.cell (p := ⟨g, 3, none⟩) (by simp; omega) (by simp; omega)).trans c⟩
  have FIN : Hid (∀ W vk vs vp, Only (fun _ => False) w W → Only (fun _ => False) w1.drew W → TRow w 9 1 s.kept.length vk (svs s.kept) W → TRow w 9 1 s.kept.length vs (svs s.seen) W → TRow w 68 2 s.pend.length vp (wvs s.pend) W → Apart vk vs →
      TwinDone w E s (((W.setCell ⟨w.heap.size, 1, none⟩ vk).setCell ⟨w.heap.size, 2, none⟩ vs).setCell ⟨w.heap.size, 3, none⟩ vp)) := fun W vk vs vp k k' rk rs rp ap => by
    obtain ⟨d, b⟩ := h.twin k (HB0.only k' (fun h => h)) rk rs rp ap
    exact ⟨_, d, fun i hi => hi.1, b⟩
  have BX : Hid (∀ W, Only (fun _ => False) w1.drew W → (W.cell? ⟨w.heap.size, 1, none⟩ = some (.slice (some ⟨gk, 0, none⟩) s.kept.length ck) ∧ W.cell? ⟨w.heap.size, 2, none⟩ = some (.slice (some ⟨gs, 0, none⟩) s.kept.length cs) ∧ W.cell? ⟨w.heap.size, 3, none⟩ = some (.slice Ap s.pend.length cp)) ∧ (W.frozen? ⟨w.heap.size, 1, none⟩ = false ∧ W.frozen? ⟨w.heap.size, 2, none⟩ = false ∧ W.frozen? ⟨w.heap.size, 3, none⟩ = false)) := fun W k => by
    have hb := HB0.only k (fun h => h)
    have e1 := hb.cell 1
    have e2 := hb.cell 2
    have e3 := hb.cell 3
    rw [hpe] at e3
    exact ⟨⟨by simpa using e1, by simpa using e2, by simpa using e3⟩, hb.frozen 1, hb.frozen 2, hb.frozen 3⟩
  have KD := Lib.hid k0
  have hs1 : w.heap.size < w1.heap.size := by omega
  have HW1 := Lib.hid hw1
  clear h hpe hhe HB0 k0 hw1
  go_enter Try.func16, Try.ntmps16
  go_upto_region 2 with fail
  rw [← HW1.out]
  clear HW1
  go_cut [7] from 7 to 24 (fun _ wx => Hid (TwinDone w E s wx))
  case first =>
    refine wp_region_held_drew (S := fun w' => w'.cell? ⟨g, 1, none⟩ = some (.slice (some ⟨gk, 0, none⟩) s.kept.length ck) ∧ w'.cell? ⟨g, 2, none⟩ = some (.slice (some ⟨gs, 0, none⟩) s.kept.length cs) ∧ w'.cell? ⟨g, 3, none⟩ = some (.slice Ap s.pend.length cp)) (by kernel_rfl) ?_ (fun hHeld => ?_)
    · exact HS.out _ KD.out
    refine takeH (i := 0) (d := 7) (v := ?_) (by kernel_rfl) (by kernel_rfl) (by kernel_rfl) rfl (fun _ _ _ h => h) (by rfl) ?_ hHeld ?_
    rotate_left
    · intro o ho w hSw
      cases ho
      go_simp
      try with_reducible rfl
    simp only [Act.put, List.setIfInBounds_toArray, List.set_cons_zero, List.set_cons_succ]
    refine takeH (i := 1) (d := 8) (v := ?_) (by kernel_rfl) (by kernel_rfl) (by kernel_rfl) rfl (fun _ _ _ h => h) (by rfl) ?_ hHeld ?_
    rotate_left
    · intro o ho w hSw
      cases ho
      go_simp
      try with_reducible rfl
    simp only [Act.put, List.setIfInBounds_toArray, List.set_cons_zero, List.set_cons_succ]
    refine takeH (i := 2) (d := 9) (v := ?_) (by kernel_rfl) (by kernel_rfl) (by kernel_rfl) rfl (fun _ _ _ h => h) (by rfl) ?_ hHeld ?_
    rotate_left
    · intro o ho w hSw
      cases ho
      go_simp
      try with_reducible rfl
    simp only [Act.put, List.setIfInBounds_toArray, List.set_cons_zero, List.set_cons_succ]
    refine takeH (i := 3) (d := 10) (v := ?_) (by kernel_rfl) (by kernel_rfl) (by kernel_rfl) rfl (fun _ _ _ h => h) (by rfl) ?_ hHeld ?_
    rotate_left
    · intro o ho w hSw
      cases ho
      go_simp
      try with_reducible rfl
    simp only [Act.put, List.setIfInBounds_toArray, List.set_cons_zero, List.set_cons_succ]
    refine takeH (i := 5) (d := 12) (v := ?_) (by kernel_rfl) (by kernel_rfl) (by kernel_rfl) rfl (fun _ _ _ h => h) (by rfl) ?_ hHeld ?_
    rotate_left
    · intro o ho w hSw
      cases ho
      go_simp
      try with_reducible rfl
    simp only [Act.put, List.setIfInBounds_toArray, List.set_cons_zero, List.set_cons_succ]
    refine takeH (i := 6) (d := 13) (v := ?_) (by kernel_rfl) (by kernel_rfl) (by kernel_rfl) rfl (fun _ _ _ h => h) (by rfl) ?_ hHeld ?_
    rotate_left
    · intro o ho w hSw
      cases ho
      go_simp
      try with_reducible rfl
    simp only [Act.put, List.setIfInBounds_toArray, List.set_cons_zero, List.set_cons_succ]
    refine takeH (i := 7) (d := 14) (v := ?_) (by kernel_rfl) (by kernel_rfl) (by kernel_rfl) rfl (fun _ _ _ h => h) (by rfl) ?_ hHeld ?_
    rotate_left
    · intro o ho w hSw
      cases ho
      go_simp
      try with_reducible rfl
    simp only [Act.put, List.setIfInBounds_toArray, List.set_cons_zero, List.set_cons_succ]
    refine takeH (i := 8) (d := 15) (v := ?_) (by kernel_rfl) (by kernel_rfl) (by kernel_rfl) rfl (fun _ _ _ h => h) (by rfl) ?_ hHeld ?_
    rotate_left
    · intro o ho w hSw
      cases ho
      go_simp
      try with_reducible rfl
    simp only [Act.put, List.setIfInBounds_toArray, List.set_cons_zero, List.set_cons_succ]
    refine takeH (i := 10) (d := 17) (v := ?_) (by kernel_rfl) (by kernel_rfl) (by kernel_rfl) rfl (fun _ _ _ h => h) (by rfl) ?_ hHeld ?_
    rotate_left
    · intro o ho w hSw
      cases ho
      go_simp
      try with_reducible rfl
    simp only [Act.put, List.setIfInBounds_toArray, List.set_cons_zero, List.set_cons_succ]
    refine takeH (i := 11) (d := 18) (v := ?_) (by kernel_rfl) (by kernel_rfl) (by kernel_rfl) rfl (fun _ _ _ h => h) (by rfl) ?_ hHeld ?_
    rotate_left
    · intro o ho w hSw
      cases ho
      go_simp
      try with_reducible rfl
    simp only [Act.put, List.setIfInBounds_toArray, List.set_cons_zero, List.set_cons_succ]
    refine takeH (i := 12) (d := 19) (v := ?_) (by kernel_rfl) (by kernel_rfl) (by kernel_rfl) rfl (fun _ _ _ h => h) (by rfl) ?_ hHeld ?_
    rotate_left
    · intro o ho w hSw
      cases ho
      go_simp
      try with_reducible rfl
    simp only [Act.put, List.setIfInBounds_toArray, List.set_cons_zero, List.set_cons_succ]
    refine takeH (i := 13) (d := 20) (v := ?_) (by kernel_rfl) (by kernel_rfl) (by kernel_rfl) rfl (fun _ _ _ h => h) (by rfl) ?_ hHeld ?_
    rotate_left
    · intro o ho w hSw
      cases ho
      go_simp
      try with_reducible rfl
    simp only [Act.put, List.setIfInBounds_toArray, List.set_cons_zero, List.set_cons_succ]
    refine wpAnyH_ready (rs := [4]) (by kernel_rfl) (by simp) ?_
    refine AllReadyH.cons rfl (fun K hK => ?_) AllReadyH.nil
    go_simp
    refine (CK.out _ KD.out).mono ?_
    rintro e w2 ⟨vk, rfl, o1, b1⟩
    have hs2 : w.heap.size < w2.heap.size := Nat.lt_of_lt_of_le hs1 b1.size
    have K1 := Lib.hid (KD.out.trans (Only.of_below b1) (fun i hi h => by have := KD.out.size; omega))
    have N1 := Lib.hid ((Only.refl (fun _ => False) w1.drew).trans (Only.of_below b1) (fun i hi h => by have := ((Only.refl (fun _ => False) w1.drew)).size; omega))
    have RK := Lib.hid (TRow.new (w := w) o1 hs1)
    clear o1 b1
    try go_wp2_with fail
    refine hK.out _ _ ?_ (fun hHeld => ?_)
    · exact HS.out _ K1.out
    clear hK K
    refine wpAnyH_ready (rs := [9]) (by kernel_rfl) (by simp) ?_
    refine AllReadyH.cons rfl (fun K hK => ?_) AllReadyH.nil
    go_simp
    refine (CS.out _ K1.out).mono ?_
    rintro e w3 ⟨vs, rfl, o2, b2⟩
    have hs3 : w.heap.size < w3.heap.size := Nat.lt_of_lt_of_le hs2 b2.size
    have K2 := Lib.hid (K1.out.trans (Only.of_below b2) (fun i hi h => by have := K1.out.size; omega))
    have N2 := Lib.hid (N1.out.trans (Only.of_below b2) (fun i hi h => by have := (N1.out).size; omega))
    have AP := Lib.hid (Apart.new RK.out o2)
    have RS := Lib.hid (TRow.new (w := w) o2 hs2)
    have RK' := Lib.hid (RK.out.below b2)
    clear RK
    have RK := RK'
    clear RK'
    clear o2 b2
    try go_wp2_with fail
    refine hK.out _ _ ?_ (fun hHeld => ?_)
    · exact HS.out _ K2.out
    clear hK K
    refine wpAnyH_ready (rs := [14]) (by kernel_rfl) (by simp) ?_
    refine AllReadyH.cons rfl (fun K hK => ?_) AllReadyH.nil
    go_simp
    refine (CP.out _ K2.out).mono ?_
    rintro e w4 ⟨vp, rfl, o3, b3⟩
    have hs4 : w.heap.size < w4.heap.size := Nat.lt_of_lt_of_le hs3 b3.size
    have K3 := Lib.hid (K2.out.trans (Only.of_below b3) (fun i hi h => by have := K2.out.size; omega))
    have N3 := Lib.hid (N2.out.trans (Only.of_below b3) (fun i hi h => by have := (N2.out).size; omega))
    have RP := Lib.hid (TRow.new (w := w) o3 hs3)
    have RK' := Lib.hid (RK.out.below b3)
    clear RK
    have RK := RK'
    clear RK'
    have RS' := Lib.hid (RS.out.below b3)
    clear RS
    have RS := RS'
    clear RS'
    clear o3 b3
    try go_wp2_with fail
    refine hK.out _ _ ?_ (fun hHeld => ?_)
    · exact HS.out _ K3.out
    clear hK K
    refine takeH (i := 15) (d := 22) (v := ?_) (by kernel_rfl) (by kernel_rfl) (by kernel_rfl) rfl (fun _ _ _ h => h) (by rfl) ?_ hHeld ?_
    rotate_left
    · intro o ho w hSw
      cases ho
      go_simp
      try with_reducible rfl
    simp only [Act.put, List.setIfInBounds_toArray, List.set_cons_zero, List.set_cons_succ]
    obtain ⟨⟨x1, x2, x3⟩, y1, y2, y3⟩ := BX.out _ N3.out
    have R := Lib.hid (FIN.out _ vk vs vp K3.out N3.out RK.out RS.out RP.out AP.out)
    obtain ⟨Ak, nk, qk, rfl⟩ := owns_form RK.out.1
    obtain ⟨As, ns, qs, rfl⟩ := owns_form RS.out.1
    obtain ⟨Aq, nq, qq, rfl⟩ := owns_form RP.out.1
    refine wpAnyH_ready (rs := [16]) (by kernel_rfl) (by simp) ?_
    refine AllReadyH.cons rfl (fun K hK => ?_) AllReadyH.nil
    go_simp
    refine hK.out _ _ ?_ (fun hHeld => ?_)
    · exact HSs.out _ _ K3.out ((Only.refl (fun i => i = w.heap.size) w4).setCell (p := ⟨w.heap.size, 1, none⟩) (fun _ => rfl) (.slice Ak nk qk))
    clear hK K
    refine takeH (i := 17) (d := 23) (v := ?_) (by kernel_rfl) (by kernel_rfl) (by kernel_rfl) rfl (fun _ _ _ h => h) (by rfl) ?_ hHeld ?_
    rotate_left
    · intro o ho w hSw
      cases ho
      go_simp
      try with_reducible rfl
    simp only [Act.put, List.setIfInBounds_toArray, List.set_cons_zero, List.set_cons_succ]
    refine wpAnyH_ready (rs := [18]) (by kernel_rfl) (by simp) ?_
    refine AllReadyH.cons rfl (fun K hK => ?_) AllReadyH.nil
    go_simp
    refine hK.out _ _ ?_ (fun hHeld => ?_)
    · exact HSs.out _ _ K3.out (((Only.refl (fun i => i = w.heap.size) w4).setCell (p := ⟨w.heap.size, 1, none⟩) (fun _ => rfl) (.slice Ak nk qk)).setCell (p := ⟨w.heap.size, 2, none⟩) (fun _ => rfl) (.slice As ns qs))
    clear hK K
    refine takeH (i := 19) (d := 24) (v := ?_) (by kernel_rfl) (by kernel_rfl) (by kernel_rfl) rfl (fun _ _ _ h => h) (by rfl) ?_ hHeld ?_
    rotate_left
    · intro o ho w hSw
      cases ho
      go_simp
      try with_reducible rfl
    simp only [Act.put, List.setIfInBounds_toArray, List.set_cons_zero, List.set_cons_succ]
    refine wpAnyH_ready (rs := [20]) (by kernel_rfl) (by simp) ?_
    refine AllReadyH.cons rfl (fun K hK => ?_) AllReadyH.nil
    go_simp
    refine hK.out _ _ ?_ (fun hHeld => ?_)
    · exact HSs.out _ _ K3.out ((((Only.refl (fun i => i = w.heap.size) w4).setCell (p := ⟨w.heap.size, 1, none⟩) (fun _ => rfl) (.slice Ak nk qk)).setCell (p := ⟨w.heap.size, 2, none⟩) (fun _ => rfl) (.slice As ns qs)).setCell (p := ⟨w.heap.size, 3, none⟩) (fun _ => rfl) (.slice Aq nq qq))
    clear hK K
    refine wpAnyH_done (by kernel_rfl) ?_ _
    go_wp2_with fail
    go_meet
    exact R
  case rest =>
    have R := hcut
    clear hcut CK CS CP HS HSs FIN BX KD
    go_wp2
    go_ret
    exact ⟨rfl, R.out⟩
end Go.Proofs.Ytddllgbficjaoaa
