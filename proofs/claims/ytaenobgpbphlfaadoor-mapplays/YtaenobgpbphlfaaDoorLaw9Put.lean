/-
  Layer 9's own 'free' and 'put': the law's row of marks.
-/
import Derived.Test.YtaenobgpbphlfaaDoorLaw9Known
namespace Go.Proofs.YtaenobgpbphlfaaDoor
open Go.RowKit Go.Lib
set_option maxRecDepth 100000

theorem Tryd.infoBool9 : (Tryd.prog.info? 4).map (fun i => (i.zero, i.size, i.bytes)) = some (some (.bool false), 1, 1) := by kernel_rfl
theorem bvs_set9 (l : List Bool) (i : Nat) (x : Bool) : bvs (l.set i x) = (bvs l).set i (.bool x) := by simp [bvs, List.map_set]
/-- A row of marks of the law's own. -/
def BRow (w : World) (B : Nat) (v : Value) (L : List Bool) : Prop := w.ownsRow B 4 1 v L.length (bvs L)
section
variable {a b w : World} {S : Nat → Prop} {B g c : Nat} {L : List Bool} {v : Value}
theorem BRow.cell (h : BRow w B (.slice (some ⟨g, 0, none⟩) L.length c) L) {i : Nat} (hi : i < L.length) : w.cell? ⟨g, i, none⟩ = some (.bool (L.getD i false)) := by
  rw [World.ownsRow.cellAt h i (by omega), bvs_get hi, getD_in _ _ _ hi]
theorem BRow.only (h : BRow a B v L) (k : Only S a b) (hn : ∀ i, v.ownBlock = some i → ¬ S i) : BRow b B v L := owns_only h k hn
end

/-- What the law's search answers. -/
inductive FreeAns (L : List Bool) (n : Nat) (w : World) (e : Ending) (w' : World) : Prop
  | some (a : Nat) (h : RunIs L n a) (he : e = .returned (.int .i64 (a : Int))) (hw : w = w')
  | none (h : RunNone L n) (he : e = .returned (.int .i64 (-1))) (hw : w = w')
set_option maxHeartbeats 4000000 in
theorem lawfree_any (B : Nat) (v : Value) (L : List Bool) (n : Nat) (w : World) (h : BRow w B v L) (hl : 1 ≤ L.length) (hl2 : L.length ≤ 300) (hn : 1 ≤ n) (hn2 : n ≤ 300) : Calls Tryd.prog 9 #[v, .int .i64 (n : Int)] w (FreeAns L n w) := by
  obtain ⟨G, c, rfl, _, _⟩ := owns_some h hl
  obtain ⟨N, hN⟩ : ∃ N, N = L.length := ⟨_, rfl⟩
  have HC : Hid (∀ i, i < N → w.cell? ⟨G, i, none⟩ = some (.bool (L.getD i false))) := Lib.hid (fun i hi => h.cell (by omega))
  have HN := Lib.hid hN
  rw [← hN] at hl hl2 ⊢
  have I0 : Hid (∀ b, b < 0 → ¬ Fits L n b) := Lib.hid (fun b hb => by omega)
  clear h hN
  go_enter Tryd.func9, Tryd.ntmps9
  go_wp2
  go_loop [5] (fun i => ∃ a : Nat, i = .int .i64 (a : Int) ∧ a ≤ N ∧ Hid (∀ b, b < a → ¬ Fits L n b)) (fun i => N - (intOf i).toNat)
  case atStart => exact ⟨0, rfl, Nat.zero_le _, I0⟩
  case round =>
    obtain ⟨a, rfl, ha, hrel⟩ := hrel
    clear I0
    by_cases hlt : a + n ≤ N
    · have J0 : Hid (∀ j, j < 0 → L.getD (a + j) false = false) := Lib.hid (fun j hj => by omega)
      go_wp2
      go_loop [6] (fun s => ∃ k : Nat, s = .int .i64 (k : Int) ∧ k ≤ n ∧ Hid (∀ j, j < k → L.getD (a + j) false = false)) (fun s => n - (intOf s).toNat)
      case atStart => exact ⟨0, rfl, Nat.zero_le _, J0⟩
      case round =>
        obtain ⟨k, rfl, hk, hrel2⟩ := hrel
        clear J0
        by_cases hkn : k < n
        · have ck := HC.out (a + k) (by omega)
          have i1 : (a : Int) + (k : Int) < (N : Int) := by omega
          cases hb : L.getD (a + k) false with
          | false =>
            rw [hb] at ck
            have R : Hid (∀ j, j < k + 1 → L.getD (a + j) false = false) := Lib.hid (fun j hj => by
              rcases Nat.lt_or_ge j k with h | h
              · exact hrel2.out j h
              · have : j = k := by omega
                rw [this]
                exact hb)
            clear hb
            go_wp2
            go_round
            case rel => exact ⟨k + 1, by go_num, by omega, R⟩
            case measure => simp [intOf]; omega
          | true =>
            rw [hb] at ck
            have R : Hid (∀ b, b < a + 1 → ¬ Fits L n b) := Lib.hid (fun b hb' hf => by
              rcases Nat.lt_or_ge b a with h | h
              · exact hrel.out b h hf
              · have : b = a := by omega
                subst this
                have := hf.2 k hkn
                rw [hb] at this
                cases this)
            have e1 : ((k : Int) == (n : Int)) = false := by
              simp only [beq_eq_false_iff_ne, ne_eq]
              omega
            clear hb
            go_wp2
            go_round
            case rel => exact ⟨a + 1, by go_num, by omega, R⟩
            case measure => simp [intOf]; omega
        · have hke : k = n := by omega
          have R : Hid (FreeAns L n w (.returned (.int .i64 (a : Int))) w) := Lib.hid (.some a ⟨⟨by rw [← HN.out]; exact hlt, fun j hj => hrel2.out j (by omega)⟩, hrel.out⟩ rfl rfl)
          have d1 : decide ((k : Int) < (n : Int)) = false := decide_eq_false (by omega)
          have e1 : ((k : Int) == (n : Int)) = true := by
            simp only [beq_iff_eq]
            omega
          clear hke
          go_wp2
          go_ret
          exact R.out
    · have R : Hid (FreeAns L n w (.returned (.int .i64 (-1))) w) := Lib.hid (.none (fun b hf => by
        rcases Nat.lt_or_ge b a with h | h
        · exact hrel.out b h hf
        · have := hf.1
          rw [← HN.out] at this
          omega) rfl rfl)
      have d1 : decide ((a : Int) + (n : Int) ≤ (N : Int)) = false := decide_eq_false (by omega)
      go_wp2
      go_ret
      exact R.out

/-- While places are being put. -/
def PInv9 (w : World) (v : Value) (L : List Bool) (wr : World) : Prop := BRow wr w.heap.size v L ∧ Calm w wr
set_option maxHeartbeats 2000000 in
theorem lawput_any (B : Nat) (v : Value) (L : List Bool) (at_ n : Nat) (x : Bool) (w : World) (h : BRow w B v L) (hl : 1 ≤ L.length) (hl2 : L.length ≤ 300) (hfit : at_ + n ≤ L.length) :
    Calls Tryd.prog 10 #[v, .int .i64 (at_ : Int), .int .i64 (n : Int), .bool x] w fun e w' => ∃ v', e = .returned v' ∧ PInv9 w v' (putL L at_ x n) w' := by
  obtain ⟨G, c, rfl, _, _⟩ := owns_some h hl
  obtain ⟨i0, hi0, hz0, hz1, hz2⟩ := info_parts Tryd.infoBool9
  have hown : (w.alloc (.cells #[] 4)).ownsRow w.heap.size 4 1 (.slice (some ⟨w.heap.size, 0, none⟩) 0 0) 0 [] :=
    World.ownsRow_made w #[] 0 (Nat.le_refl _) (by simp [maxLen]) (by simp)
  have hnews : ∀ j u, (bvs L)[j]? = some u → (w.alloc (.cells #[] 4)).cell? ((⟨G, 0, none⟩ : Addr).add j) = some u := fun j u hu' => by
    have hc := h.cells (g := G) rfl j u hu'
    exact (World.cell?_alloc_lt w _ _ (by rw [addr_block]; exact (h.lt G rfl).2)).trans hc
  have hlen : (bvs L).length = L.length * 1 := by rw [bvs_length, Nat.mul_one]
  obtain ⟨N, hN⟩ : ∃ N, N = L.length := ⟨_, rfl⟩
  have H1 := Lib.hid hown
  have H2 := Lib.hid hnews
  have H4 := Lib.hid (bvs_one L)
  have HN := Lib.hid hN
  rw [← hN] at hlen hl hl2 hfit ⊢
  have H3 := Lib.hid hlen
  clear hown hnews h hlen hN
  go_enter Tryd.func10, Tryd.ntmps10
  go_wp2_with (at_builtin; refine wpList_append_own_at _ rfl (.tmp 11) (.tmp 12) 28 rfl w.heap.size 4 i0 (.bool false) 1 1 Tryd.underlying28 hi0 hz0 hz1 hz2 rfl (by decide) _ _ _ rfl H1.out ⟨G, 0, none⟩ N c (bvs L) rfl H3.out H2.out H4.out (by simp [maxLen]; omega) (by omega) (by simp) ?_)
  intro v' w1 h1' h2' _ _
  have h3' : w1.ownsRow w.heap.size 4 1 v' N (bvs L) := by simpa using h1'
  obtain ⟨G2, c2, rfl, _, _⟩ := owns_some h3' hl
  have I0 : Hid (PInv9 w (.slice (some ⟨G2, 0, none⟩) N c2) (putL L at_ x 0) w1) := Lib.hid (by
    have hb : Below w.heap.size w w1 := ((Below.refl _ w).alloc (Nat.le_refl _) _).grown h2' (by simp) (by simp [Value.ownBlock])
    refine ⟨?_, (Only.of_below hb).mono (fun i hi h => absurd hi (Nat.not_lt_of_le h))⟩
    unfold BRow
    rw [putL_length, ← HN.out]
    exact h3')
  have hG2 := (h3'.lt G2 rfl).1
  clear h1' h2' h3'
  go_wp2
  go_loopw [10] (fun i wr => ∃ k : Nat, i = .int .i64 (k : Int) ∧ k ≤ n ∧ Hid (PInv9 w (.slice (some ⟨G2, 0, none⟩) N c2) (putL L at_ x k) wr)) (fun i _ => n - (intOf i).toNat)
  case atStart => exact ⟨0, rfl, Nat.zero_le _, I0⟩
  case round =>
    obtain ⟨k, rfl, hk, hrel⟩ := hrel
    clear I0
    by_cases hlt : k < n
    · obtain ⟨q1, q2⟩ := hrel.out
      have hlk : (putL L at_ x k).length = N := by rw [putL_length, HN.out]
      have q1' : wr.ownsRow w.heap.size 4 1 (.slice (some ⟨G2, 0, none⟩) N c2) N (bvs (putL L at_ x k)) := by
        have := q1
        unfold BRow at this
        rwa [hlk] at this
      have fz := World.ownsRow.frozenAt q1' (at_ + k)
      obtain ⟨u, ck⟩ : ∃ u, wr.cell? ⟨G2, at_ + k, none⟩ = some u := ⟨_, (World.ownsRow.cellAt q1' (at_ + k) (by omega)).trans (List.getElem?_eq_getElem (by rw [bvs_length, hlk]; omega))⟩
      have R : Hid (PInv9 w (.slice (some ⟨G2, 0, none⟩) N c2) (putL L at_ x (k + 1)) (wr.setCell ⟨G2, at_ + k, none⟩ (.bool x))) := Lib.hid (by
        refine ⟨?_, Only.setCell q2 (p := ⟨G2, at_ + k, none⟩) (fun hp => absurd hp (by show ¬ G2 < w.heap.size; omega)) _⟩
        have := (World.ownsRow.stored q1' (at_ + k) (.bool x)).1
        unfold BRow
        rw [putL_length, ← HN.out]
        show World.ownsRow _ _ _ _ _ _ (bvs ((putL L at_ x k).set (at_ + k) x))
        rw [bvs_set9]
        exact this)
      have i1 : (at_ : Int) + (k : Int) < (N : Int) := by omega
      clear q1 q2 q1' hrel hlk
      go_wp2
      go_roundw
      case rel => exact ⟨k + 1, by go_num, by omega, R⟩
      case measure => simp [intOf]; omega
    · have hke : k = n := by omega
      have R : Hid (PInv9 w (.slice (some ⟨G2, 0, none⟩) N c2) (putL L at_ x n) wr) := Lib.hid (by
        have := hrel.out
        rwa [hke] at this)
      have d1 : decide ((k : Int) < (n : Int)) = false := decide_eq_false (by omega)
      clear hke hrel
      go_wp2
      go_ret
      exact ⟨_, rfl, R.out⟩
end Go.Proofs.YtaenobgpbphlfaaDoor
