/-
  Package frame: Wrap, Twin; the second reading's Wrap; the statement's own comparison of bodies.
-/
import Derived.Test.YtfldgoggaadohaaFrameD
import Derived.Test.YtfldgoggaadohaaRefPut
import Derived.Deep.QuietTactic
import Derived.BigQuiet
namespace Go.Proofs.Ytfldgoggaadohaa
open Go.RowKit
set_option maxRecDepth 100000

/-- What Wrap tells. -/
def wrapR (b : List UInt8) : List UInt8 × Int := if 8188 < b.length then ([], 3) else (wrapB b, 0)
def WrapStep (w : World) (r : List UInt8 × Int) (e : Ending) (w' : World) : Prop :=
  ∃ v, e = .returned (.tuple #[v, .int .i64 r.2]) ∧ w'.ownsRow w.heap.size 5 1 v r.1.length (b8s r.1) ∧ Below w.heap.size w w'

set_option maxHeartbeats 1000000 in
theorem wrap_any (x : Value) (b : List UInt8) (lo hi : Nat) (w : World) (hx : SlIs w lo hi x b) (hhi : hi ≤ w.heap.size) (hl : b.length ≤ 1000000) :
    Calls Try.prog 15 #[x] w (WrapStep w (wrapR b)) := by
  have hx' := hx
  obtain ⟨A, c, rfl, _⟩ := hx'
  by_cases hbig : 8188 < b.length
  · have R : Hid (WrapStep w (wrapR b) (.returned (.tuple #[.slice none 0 0, .int .i64 3])) w) := by
      rw [wrapR, if_pos hbig]
      exact ⟨_, rfl, World.ownsRow_nil _ _ _ _, Below.refl _ _⟩
    have hd : decide ((8192 : Int) < (b.length : Int) + 4) = true := decide_eq_true (by omega)
    clear hx
    go_enter Try.func15, Try.ntmps15
    go_wp2
    go_ret2
    exact R.out
  · have HW : Hid (wrapR b = (wrapB b, 0)) := by
      show _ = _
      rw [wrapR, if_neg hbig]
    have hd : decide ((8192 : Int) < (b.length : Int) + 4) = false := decide_eq_false (by omega)
    have hwr : IntKind.u64.wrap ((b.length : Int) + 4) = (b.length : Int) + 4 := IntWalk.u64_in _ (by omega)
    have HX := Lib.hid hx
    have C1 : Hid (Calls Try.prog 21 #[.pointer (some ⟨w.heap.size, 0, none⟩), .int .i64 4, .int .u64 ((b.length : Int) + 4)] (w.alloc (.cells #[.slice none 0 0] 52)) (OutStep (w.alloc (.cells #[.slice none 0 0] 52)) w.heap.size w.heap.size (.slice none 0 0) (putB 4 (b.length + 4)))) := by
      have q := put_yes w.heap.size w.heap.size (.slice none 0 0) [] 4 (b.length + 4) _ (new_out w) (by omega) (by omega) (by omega) (by simp)
      exact Lib.hid (by simpa using q)
    clear hx
    go_enter Try.func15, Try.ntmps15
    go_wp2_with fail
    refine C1.out.mono ?_
    rintro e w1 ⟨v1, rfl, o1, k1, f1⟩
    have b1 : Below w.heap.size w w1 := by
      have q : Only (fun i => w.heap.size ≤ i) w w1 := ((Only.refl (fun i => w.heap.size ≤ i) w).alloc _).trans k1 (fun i hi hF => by
        rcases hF with rfl | hF
        · exact Nat.le_refl _
        · cases hF)
      exact q.below (Nat.le_refl _) (fun i hi h => by omega)
    have x1 : SlIs w1 lo hi (.slice A b.length c) b := HX.out.only (Only.of_below b1) hhi (fun i _ hi h => by omega)
    have C2 := Lib.hid (outraw_any w.heap.size w.heap.size v1 _ (putB 4 (b.length + 4)) b lo hi w1 o1 x1 (by rw [List.length_append, putB_length]; omega))
    have B1 := Lib.hid b1
    have O1 := Lib.hid o1
    clear C1 o1 k1 f1 b1 x1 HX
    go_wp2_with fail
    refine C2.out.mono ?_
    rintro e w2 ⟨v2, rfl, o2, k2, f2⟩
    have b2 : Below w.heap.size w w2 := B1.out.trans (k2.below B1.out.size (fun i hi h => by have := O1.out.foot_lt h; omega))
    have o2' : OutAt w2 w.heap.size w.heap.size v2 (wrapB b) := o2
    have C3 := Lib.hid (bytes_any _ _ _ _ w2 o2' (by rw [wrapB_length]; omega))
    have B2 := Lib.hid b2
    clear C2 o2 o2' k2 f2 b2 B1 O1
    go_wp2_with fail
    refine C3.out.mono ?_
    rintro e w3 ⟨v3, rfl, o3, b3⟩
    have R : Hid (WrapStep w (wrapR b) (.returned (.tuple #[v3, .int .i64 0])) w3) := by
      rw [HW.out]
      exact ⟨_, rfl, owns_base o3 B2.out.size, B2.out.trans (b3.mono B2.out.size)⟩
    clear C3 o3 b3 B2 HW
    go_wp2
    go_ret2
    exact R.out

set_option maxHeartbeats 1000000 in
theorem refwrap_any (x : Value) (b : List UInt8) (lo hi : Nat) (w : World) (hx : SlIs w lo hi x b) (hhi : hi ≤ w.heap.size) (hl : b.length ≤ 1000000) :
    Calls Try.prog 16 #[x] w (WrapStep w (wrapR b)) := by
  have hx' := hx
  obtain ⟨A, c, rfl, _⟩ := hx'
  by_cases hbig : 8188 < b.length
  · have R : Hid (WrapStep w (wrapR b) (.returned (.tuple #[.slice none 0 0, .int .i64 3])) w) := by
      rw [wrapR, if_pos hbig]
      exact ⟨_, rfl, World.ownsRow_nil _ _ _ _, Below.refl _ _⟩
    have hd : decide ((8192 : Int) < (b.length : Int) + 4) = true := decide_eq_true (by omega)
    clear hx
    go_enter Try.func16, Try.ntmps16
    go_wp2
    go_ret2
    exact R.out
  · have HW : Hid (wrapR b = (wrapB b, 0)) := by
      show _ = _
      rw [wrapR, if_neg hbig]
    have hd : decide ((8192 : Int) < (b.length : Int) + 4) = false := decide_eq_false (by omega)
    have hwr : IntKind.u64.wrap ((b.length : Int) + 4) = (b.length : Int) + 4 := IntWalk.u64_in _ (by omega)
    have HX := Lib.hid hx
    obtain ⟨i0, hi0, hz0, hz1, hz2⟩ := info_parts Try.info8
    have C1 : Hid (Calls Try.prog 24 #[.int .i64 4, .int .u64 ((b.length : Int) + 4)] w (NewBytes w (putB 4 (b.length + 4)))) := by
      have q := refnum_yes 4 (b.length + 4) w (by omega) (by omega)
      exact Lib.hid (by simpa using q)
    clear hx
    go_enter Try.func16, Try.ntmps16
    go_wp2_with fail
    refine C1.out.mono ?_
    rintro e w1 ⟨v1, rfl, o1, b1⟩
    have x1 : SlIs w1 lo hi (.slice A b.length c) b := HX.out.only (Only.of_below b1) hhi (fun i _ hi h => by omega)
    have B1 := Lib.hid b1
    have O1 := Lib.hid o1
    have X1 := Lib.hid x1
    have hs1 := b1.size
    clear C1 o1 b1 x1 HX
    go_wp2_with (at_builtin; go_must (refine wpList_append_bytes _ rfl (.tmp 12) (.tmp 13) 22 rfl w.heap.size 5 i0 Try.underlying22 hi0 hz0 hz1 hz2 _ (putB 4 (b.length + 4)) b rfl O1.out lo hi _ rfl X1.out (by rw [List.length_append, putB_length]; omega) hs1 ?_))
    intro v2 w2 a2 g2 _
    have R : Hid (WrapStep w (wrapR b) (.returned (.tuple #[v2, .int .i64 0])) w2) := by
      rw [HW.out]
      exact ⟨_, rfl, by simpa [wrapB] using a2, B1.out.grown g2 hs1 (fun i hi => (O1.out.lt i hi).1)⟩
    clear a2 g2 B1 O1 X1 HW
    go_wp2
    go_ret2
    exact R.out

/-- What Twin leaves: a stream of its own. -/
def TwinStep (w : World) (held : List UInt8) (dead : Bool) (e : Ending) (w' : World) : Prop :=
  ∃ g hv, e = .returned (.pointer (some ⟨g, 0, none⟩)) ∧ StAt 47 w' w.heap.size g hv held dead ∧ Below w.heap.size w w'
theorem StAt.base {t : TypeId} {w : World} {B B' g : Nat} {hv : Value} {held : List UInt8} {dead : Bool} (h : StAt t w B g hv held dead) (hB : B' ≤ B) : StAt t w B' g hv held dead :=
  ⟨h.has, owns_base h.own hB, Nat.le_trans hB h.low⟩

set_option maxHeartbeats 1000000 in
theorem twin_any (B g : Nat) (hv : Value) (held : List UInt8) (dead : Bool) (w : World) (h : StAt 47 w B g hv held dead) (hl : held.length ≤ 1000000) :
    Calls Try.prog 9 #[.pointer (some ⟨g, 0, none⟩)] w (TwinStep w held dead) := by
  have c0 := h.has.cell 0
  have c1 := h.has.cell 1
  have hlt := h.has.lt
  simp at c0 c1
  have kd := (Only.refl (fun _ => False) w).drew
  obtain ⟨A, c, rfl, _⟩ := owns_slice h.own
  have CC := Lib.hid (cloneb_any _ held B w.heap.size w.drew ((owns_SlIs h.own).only kd (Nat.le_refl _) (fun _ _ _ h => h)) (Nat.le_refl _) (by omega))
  have HC : Hid (∀ w2, Below w.heap.size w.drew w2 → w2.cell? ⟨g, 0, none⟩ = some (.slice A held.length c) ∧ w2.cell? ⟨g, 1, none⟩ = some (.bool dead)) := fun w2 b => ⟨(b.cell (p := ⟨g, 0, none⟩) hlt).trans c0, (b.cell (p := ⟨g, 1, none⟩) hlt).trans c1⟩
  have HF : Hid (∀ w2 u, w2.ownsRow w.heap.size 5 1 u held.length (b8s held) → Below w.heap.size w.drew w2 → TwinStep w held dead (.returned (.pointer (some ⟨w2.heap.size, 0, none⟩))) (w2.alloc (.cells #[u, .bool dead] 47))) := by
    intro w2 u ho b
    exact ⟨_, u, rfl, ⟨Has.new _ _ _, ho.alloc _, b.size⟩, (Below.mk b.os b.tape b.output b.size b.block : Below w.heap.size w w2).alloc b.size _⟩
  clear h kd
  go_enter Try.func9, Try.ntmps9
  go_wp2_with fail
  go_region_law (go_simp; go_at_call 17; refine CC.out.mono ?_; rintro e w2 ⟨u, rfl, u2, k2⟩; obtain ⟨Au, nu, cu, rfl⟩ := owns_form u2; obtain ⟨z0, z1⟩ := HC.out _ k2; have R := Lib.hid (HF.out _ _ u2 k2); clear u2 k2)
  all_goals
    go_wp2
    go_ret
    exact R.out
end Go.Proofs.Ytfldgoggaadohaa
