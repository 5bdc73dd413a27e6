/-
  Package disk: made, New.
-/
import Derived.Test.YtnhojcldeloigaaGreatDiskC
namespace Go.Proofs.YtnhojcldeloigaaGreat
open Go.RowKit
set_option maxRecDepth 100000

/-- A new disk that keeps these sectors. -/
def D.new (z : Nat) (l : List (List UInt8)) : D := ⟨z, l, [], 0, false, 0, []⟩
theorem D.new_ok {z : Nat} {l : List (List UInt8)} (h1 : 0 < l.length) (h2 : l.length ≤ 16384) (hz : z ≤ 1024) (hall : ∀ y ∈ l, y.length = z) : (D.new z l).Ok :=
  ⟨h1, h2, hz, fun p hp => absurd hp (by simp [D.new]), hall, fun p hp => absurd hp (by simp [D.new])⟩
/-- Made: a disk in new blocks. -/
def MadeStep (w : World) (B : Nat) (s : D) (v : Value) (w' : World) : Prop :=
  ∃ g, v = .pointer (some ⟨g, 0, none⟩) ∧ Dk w' (fun i => B ≤ i ∧ i < w'.heap.size) (fun _ => False) g s ∧ Below w.heap.size w w'

set_option maxHeartbeats 400000 in
theorem made_any (l : List (List UInt8)) (z B : Nat) (x : Value) (w : World) (hx : w.ownsRow B 9 1 x l.length (svs l)) (hB : B ≤ w.heap.size) (h1 : 0 < l.length) (h2 : l.length ≤ 16384) (hz : z ≤ 1024) (hall : ∀ y ∈ l, y.length = z) :
    Calls Tryz.prog 29 #[x, .int .i64 (z : Int)] w fun e w' => ∃ v, e = .returned v ∧ MadeStep w B (D.new z l) v w' := by
  obtain ⟨gk, ck, rfl, _, _⟩ := owns_some hx h1
  have C := Lib.hid (cloneS_any _ l.length _ (svs l) w (RwIs.of_own hx) (by simp [svs_length]) (svs_one l) (by omega))
  have R : Hid (∀ v w1, w1.ownsRow w.heap.size 9 1 v l.length (svs l) → Below w.heap.size w w1 → ∃ gs cs, v = .slice (some ⟨gs, 0, none⟩) l.length cs ∧ MadeStep w B (D.new z l) (.pointer (some ⟨w1.heap.size, 0, none⟩)) (w1.alloc (.cells #[.int .i64 (z : Int), .slice (some ⟨gk, 0, none⟩) l.length ck, .slice (some ⟨gs, 0, none⟩) l.length cs, .slice none 0 0, .int .i64 0, .bool false, .int .i64 0, .slice none 0 0] 77))) := by
    intro v w1 hv hb
    obtain ⟨gs, cs, rfl, _, _⟩ := owns_some hv h1
    refine ⟨gs, cs, rfl, w1.heap.size, rfl, ⟨gk, ck, gs, cs, .slice none 0 0, .slice none 0 0, ?_⟩, ?_⟩
    · have hs := hb.size
      have k := Only.of_below hb
      have hk := hx.lt gk rfl
      have hg := hv.lt gs rfl
      have k1 : Only (fun _ => False) w1 (w1.alloc (.cells #[.int .i64 (z : Int), .slice (some ⟨gk, 0, none⟩) l.length ck, .slice (some ⟨gs, 0, none⟩) l.length cs, .slice none 0 0, .int .i64 0, .bool false, .int .i64 0, .slice none 0 0] 77)) := (Only.refl _ _).alloc _
      have r1 : StrRow w1 gk ck l := owns_only (owns_base hx (Nat.zero_le _)) k (fun i hi hn => by
        have : gk = i := by simpa [Value.ownBlock] using hi
        omega)
      have r2 : StrRow w1 gs cs l := owns_base hv (Nat.zero_le _)
      refine ⟨Has.new _ _ _, r1.only k1 (fun h => h), r2.only k1 (fun h => h), World.ownsRow_nil _ _ _ _, RwIs.nil _ _, by omega, ?_, ?_, ?_, (fun i hi => by cases hi), fun i hi => hi.2, fun i hi => hi.elim, fun i hi => hi.elim, D.new_ok h1 h2 hz hall⟩
      · exact ⟨by omega, by simp⟩
      · exact ⟨by omega, by simp; omega⟩
      · exact ⟨by omega, by simp; omega⟩
    · exact hb.alloc hb.size _
  clear hx
  go_enter Tryz.func29, Tryz.ntmps29
  go_wp2_with fail
  refine C.out.mono ?_
  rintro e w1 ⟨v, rfl, h3, h4⟩
  obtain ⟨gs, cs, rfl, M⟩ := R.out v w1 h3 h4
  have HM := Lib.hid M
  clear h3 h4 M C R
  go_wp2
  go_ret
  exact ⟨_, rfl, HM.out⟩

theorem repeatL_one (n : Nat) : Lib.repeatL [(0 : UInt8)] n = List.replicate n 0 := by
  induction n with
  | zero => rfl
  | succ n ih => simp [Lib.repeatL, List.replicate_succ, ih]
/-- What New answers. -/
def NewAns (w : World) (n z : Int) (e : Ending) (w' : World) : Prop :=
  if mayB n z = true then ∃ v, e = .returned (.tuple #[v, .int .i64 0]) ∧ MadeStep w w.heap.size (D.new z.toNat (List.replicate n.toNat (List.replicate z.toNat 0))) v w'
  else e = .returned (.tuple #[.pointer none, .int .i64 1]) ∧ w = w'
set_option maxHeartbeats 400000 in
theorem disknew_any (n z : Int) (w : World) : Calls Tryz.prog 9 #[.int .i64 n, .int .i64 z] w (NewAns w n z) := by
  cases hm : mayB n z with
  | false =>
    have C := Lib.hid (maybe_any n z w)
    rw [hm] at C
    have R : Hid (NewAns w n z (.returned (.tuple #[.pointer none, .int .i64 1])) w) := by
      show NewAns _ _ _ _ _
      rw [NewAns, if_neg (by rw [hm]; decide)]
      exact ⟨rfl, rfl⟩
    clear hm
    go_enter Tryz.func9, Tryz.ntmps9
    go_wp2_with fail
    refine C.out.mono ?_
    rintro e w1 ⟨rfl, rfl⟩
    go_wp2
    go_ret2
    exact R.out
  | true =>
    have C := Lib.hid (maybe_any n z w)
    rw [hm] at C
    obtain ⟨h1, h2, h3, h4⟩ := of_decide_eq_true hm
    obtain ⟨n, rfl⟩ : ∃ m : Nat, n = (m : Int) := ⟨n.toNat, by omega⟩
    obtain ⟨z, rfl⟩ : ∃ m : Nat, z = (m : Int) := ⟨z.toNat, by omega⟩
    have CS := Lib.hid (Tryz.strings_Repeat ⟨#[0]⟩ z w (by omega) (by simp [ByteArray.size]; omega))
    have hrp : (⟨(Lib.repeatL (ByteArray.mk #[(0 : UInt8)]).data.toList z).toArray⟩ : ByteArray) = strOf (List.replicate z 0) := by
      show (⟨(Lib.repeatL [(0 : UInt8)] z).toArray⟩ : ByteArray) = _
      rw [repeatL_one]
      rfl
    rw [hrp] at CS
    have R : Hid (∀ v w', Below w.heap.size w w' → MadeStep w w.heap.size (D.new z (List.replicate n (List.replicate z 0))) v w' → NewAns w n z (.returned (.tuple #[v, .int .i64 0])) w') := by
      intro v w' _ h
      rw [NewAns, if_pos hm]
      exact ⟨v, rfl, by simpa using h⟩
    clear hm hrp
    go_enter Tryz.func9, Tryz.ntmps9
    go_wp2_with fail
    refine C.out.mono ?_
    rintro e w1 ⟨rfl, rfl⟩
    clear C
    go_wp2_with fail
    refine CS.out.mono ?_
    rintro e w2 ⟨rfl, b2⟩
    have hs2 := b2.size
    have CR := Lib.hid (repeats_any (.string (strOf (List.replicate z 0))) rfl 1 n ⟨w2.heap.size, 0, none⟩ (w2.alloc (.cells #[.string (strOf (List.replicate z 0))] 9)) (by
      rw [(Has.new w2 9 #[.string (strOf (List.replicate z 0))]).cell 0]
      rfl) (by simp) (by omega) (by omega))
    have HB2 := Lib.hid (b2.alloc hs2 (.cells #[.string (strOf (List.replicate z 0))] 9))
    clear CS b2
    go_wp2_with fail
    refine CR.out.mono ?_
    rintro e w3 ⟨v, rfl, o3, b3⟩
    have hsv : List.replicate n (Value.string (strOf (List.replicate z 0))) = svs (List.replicate n (List.replicate z 0)) := by simp [svs, sv]
    rw [hsv] at o3
    have hs3 := b3.size
    simp only [World.size_alloc] at hs3
    have b03 : Below w.heap.size w w3 := HB2.out.trans (b3.mono (by simp; omega))
    have CM := Lib.hid (made_any (List.replicate n (List.replicate z 0)) z (w2.heap.size + 1) v w3 (by simpa using o3) (by omega) (by simp; omega) (by simp; omega) (by omega) (fun y hy => by rw [List.eq_of_mem_replicate hy]; simp))
    obtain ⟨A, m, c, rfl⟩ := owns_form o3
    have HB3 := Lib.hid b03
    clear CR o3 b3 b03 HB2 hsv
    go_wp2_with fail
    refine CM.out.mono ?_
    rintro e w4 ⟨v, rfl, g, rfl, d4, b4⟩
    have b04 := HB3.out.trans (b4.mono (by omega))
    have R2 := Lib.hid (R.out _ w4 b04 ⟨g, rfl, by
      obtain ⟨gk, ck, gs, cs, pv, hv, d⟩ := d4
      exact ⟨gk, ck, gs, cs, pv, hv, ⟨d.has, d.kept, d.seen, d.pend, d.keep, d.ne, ⟨by have := d.fg; omega, d.fg.2⟩, ⟨by have := d.fk; omega, d.fk.2⟩, ⟨by have := d.fs; omega, d.fs.2⟩, fun i hi => ⟨by have := d.fp i hi; omega, (d.fp i hi).2⟩, fun i hi => hi.2, d.lte, fun i hi => hi.elim, d.ok⟩⟩, b04⟩)
    clear d4 b4 b04 CM HB3 R
    go_wp2
    go_ret2
    exact R2.out
end Go.Proofs.YtnhojcldeloigaaGreat
