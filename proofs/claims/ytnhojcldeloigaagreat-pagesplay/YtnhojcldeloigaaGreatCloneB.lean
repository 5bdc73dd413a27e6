/-
  The library's bytes.Clone.
-/
import Derived.Test.YtnhojcldeloigaaGreatNumA
namespace Go.Proofs.YtnhojcldeloigaaGreat
open Go.RowKit

set_option maxHeartbeats 400000 in
theorem cloneb_nil (n c : Nat) (w : World) :
    Calls Tryz.prog 45 #[.slice none n c] w (Cloned w []) := by
  have hnil := fun W => Go.Lib.run_eql_slice_nil (P := Tryz.prog) W 33 5 none n c 0 0 Tryz.underlying33
  go_enter Tryz.func45, Tryz.ntmps45
  go_wp2
  go_ret
  exact ⟨_, rfl, World.ownsRow_nil _ _ _ _, Below.refl _ _⟩

set_option maxHeartbeats 400000 in
theorem cloneb_some (ad : Addr) (c : Nat) (bs : List UInt8) (w : World) (lo hi : Nat) (hv : SlIs w lo hi (.slice (some ad) bs.length c) bs) (hhi : hi ≤ w.heap.size) (hl : bs.length ≤ 140737488355328) :
    Calls Tryz.prog 45 #[.slice (some ad) bs.length c] w (Cloned w bs) := by
  have hnil := fun W => Go.Lib.run_eql_slice_nil (P := Tryz.prog) W 33 5 (some ad) bs.length c 0 0 Tryz.underlying33
  obtain ⟨i0, hi0, hz0, hz1, hz2⟩ := info_parts Tryz.info8
  have hown : (w.alloc (.cells #[] 5)).ownsRow w.heap.size 5 1 (.slice (some ⟨w.heap.size, 0, none⟩) 0 0) ([] : List UInt8).length (b8s []) :=
    World.ownsRow_made w #[] 0 (Nat.le_refl _) (by simp [maxLen]) (by simp)
  have H1 := Lib.hid hown
  have H2 := Lib.hid (hv.alloc (o := .cells #[] 5) hhi)
  clear hown hv
  go_enter Tryz.func45, Tryz.ntmps45
  go_wp2_with (at_builtin; refine wpList_append_bytes _ rfl (.tmp 5) (.tmp 6) 33 rfl w.heap.size 5 i0 Tryz.underlying33 hi0 hz0 hz1 hz2 _ [] bs rfl H1.out lo hi _ rfl H2.out (by simpa using hl) (by simp) ?_)
  intro v' w1 h1 h2 _
  have h1 : w1.ownsRow w.heap.size 5 1 v' bs.length (b8s bs) := by simpa using h1
  have R : Hid (Cloned w bs (.returned v') w1) := ⟨_, rfl, h1, ((Below.refl _ w).alloc (Nat.le_refl _) _).grown h2 (by simp) (by simp [Value.ownBlock])⟩
  clear h1 h2
  go_wp2
  go_ret
  exact R.out

/-- Clone: a row of one's own with these bytes; nothing that was there turns. -/
theorem cloneb_any (v : Value) (bs : List UInt8) (lo hi : Nat) (w : World) (hv : SlIs w lo hi v bs) (hhi : hi ≤ w.heap.size) (hl : bs.length ≤ 140737488355328) :
    Calls Tryz.prog 45 #[v] w (Cloned w bs) := by
  have hv' := hv
  obtain ⟨A, c, rfl, hc, hm, hr⟩ := hv
  cases A with
  | none =>
    have : bs = [] := by
      rcases Nat.eq_zero_or_pos bs.length with h0 | h0
      · exact List.eq_nil_of_length_eq_zero h0
      · obtain ⟨ad, h, _⟩ := hr h0
        cases h
    subst this
    exact cloneb_nil _ _ w
  | some ad => exact cloneb_some ad c bs w lo hi hv' hhi hl

end Go.Proofs.YtnhojcldeloigaaGreat
