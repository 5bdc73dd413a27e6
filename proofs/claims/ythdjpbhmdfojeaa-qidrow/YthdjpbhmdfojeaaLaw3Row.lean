/-
  Layer 3's QidRow: whatever qids, it answers true and leaves what was there.
-/
import Derived.Test.YthdjpbhmdfojeaaLaw3Known
import Derived.Test.YthdjpbhmdfojeaaOpenQid
import Derived.Deep.RegionHeld3
import Derived.Deep.DrawnRows
namespace Go.Proofs.Ythdjpbhmdfojeaa
open Go.RowKit
set_option maxRecDepth 100000
attribute [local go_sem ↓] Go.wp_at_zero Go.wp_at_succ

/-- The bytes of qids one behind the other. -/
def qidsB (qs : List Q3) : List UInt8 := qs.flatMap qidB
theorem qidsB_succ (qs : List Q3) (j : Nat) (h : j < qs.length) : qidsB (qs.take (j + 1)) = qidsB (qs.take j) ++ qidB qs[j] := by
  unfold qidsB
  rw [List.take_succ_eq_append_getElem h, List.flatMap_append]
  simp
theorem qidsB_drop (qs : List Q3) (j : Nat) (h : j < qs.length) : qidsB (qs.drop j) = qidB qs[j] ++ qidsB (qs.drop (j + 1)) := by
  unfold qidsB
  rw [List.drop_eq_getElem_cons h, List.flatMap_cons]
theorem qidsB_length (qs : List Q3) : (qidsB qs).length = 13 * qs.length := by
  induction qs with
  | nil => rfl
  | cons q qs ih =>
    have e : qidsB (q :: qs) = qidB q ++ qidsB qs := by simp [qidsB]
    rw [e, List.length_append, ih, qidB_length, List.length_cons]
    omega

/-- At the first loop's head; at the second's. -/
def RowInv (w : World) (g : Nat) (qs : List Q3) (j : Nat) (wr : World) : Prop := ∃ v, OutAt wr g g v (qidsB (qs.take j)) ∧ Below w.heap.size w wr
def RowInv2 (w : World) (lo g : Nat) (qs : List Q3) (j : Nat) (wr : World) : Prop := InAt wr lo g (qidsB (qs.drop j)) 0 ∧ Below w.heap.size w wr

set_option maxHeartbeats 400000 in
theorem row3_big (A : Option Addr) (n c : Nat) (w : World) (h : 60 < n) :
    Calls Try.prog 5 #[.slice A n c] w fun e w' => e = .returned (.bool true) ∧ Below w.heap.size w w' := by
  have d1 : decide ((60 : Int) < (n : Int)) = true := decide_eq_true (by omega)
  go_enter Try.func5, Try.ntmps5
  go_wp2_with fail
  refine (known3 w).mono ?_
  rintro e w1 ⟨rfl, k1⟩
  have K1 := Lib.hid k1
  clear k1 h
  go_wp2
  go_ret
  exact ⟨rfl, K1.out⟩

set_option maxHeartbeats 4000000 in
theorem row3_walk (A : Option Addr) (c : Nat) (qs : List Q3) (w : World) (h2 : qs.length ≤ 60) (hx : QidsAt w w.heap.size A qs) :
    Calls Try.prog 5 #[.slice A qs.length c] w fun e w' => e = .returned (.bool true) ∧ Below w.heap.size w w' := by
  have HX := Lib.hid hx
  clear hx
  have d2 : decide ((60 : Int) < (qs.length : Int)) = false := decide_eq_false (by omega)
  go_enter Try.func5, Try.ntmps5
  go_wp2_with fail
  refine (known3 w).mono ?_
  rintro e w1 ⟨rfl, k1⟩
  have s1 := k1.size
  have R : Hid (RowInv w w1.heap.size qs 0 (w1.alloc (.cells #[.slice none 0 0] 30))) := ⟨.slice none 0 0, new_out w1, k1.alloc k1.size _⟩
  clear k1
  obtain ⟨g, hg⟩ : ∃ g, g = w1.heap.size := ⟨_, rfl⟩
  go_wp2_with fail
  rw [← hg] at R s1 ⊢
  clear hg
  go_loopw [4] (fun i wr => ∃ j : Nat, j ≤ qs.length ∧ i = .int .i64 j ∧ Hid (RowInv w g qs j wr)) (fun i _ => qs.length - (intOf i).toNat)
  case atStart => exact ⟨0, Nat.zero_le _, rfl, R⟩
  case round =>
    obtain ⟨j, hj, rfl, hrel⟩ := hrel
    clear R
    by_cases hlt : j < qs.length
    · obtain ⟨v, hO, hK⟩ := hrel.out
      obtain ⟨ad, rfl, hadH, hxs⟩ := HX.out (by omega)
      obtain ⟨hq, c0, c1, c2⟩ := hxs j hlt
      have hb : (ad.add (j * 3)).block < w.heap.size := by rw [addr_block]; exact hadH
      replace c0 := (hK.cell hb).trans c0
      replace c1 := (hK.cell (p := ⟨(ad.add (j * 3)).block, (ad.add (j * 3)).off + 1, none⟩) hb).trans c1
      replace c2 := (hK.cell (p := ⟨(ad.add (j * 3)).block, (ad.add (j * 3)).off + 2, none⟩) hb).trans c2
      have hs := qidsB_succ qs j hlt
      obtain ⟨q, hqe⟩ : ∃ q, q = qs[j] := ⟨_, rfl⟩
      rw [← hqe] at hq c0 c1 c2 hs
      have i0 : (0 : Int) ≤ (j : Int) := by omega
      have i1 : (j : Int) < (qs.length : Int) := by omega
      have hl := qidsB_length (qs.take j)
      have hl2 : (qs.take j).length ≤ 60 := by rw [List.length_take]; omega
      have C : Hid (Calls Try.prog 7 #[.pointer (some ⟨g, 0, none⟩), .agg #[.int .u8 (q.t : Int), .int .u32 (q.v : Int), .int .u64 (q.p : Int)]] wr (OutStep wr g g v (qidsB (qs.take j) ++ qidB q))) :=
        qidput_any g g v _ q wr hO hq (by omega)
      have fin : Hid (∀ e w2, OutStep wr g g v (qidsB (qs.take j) ++ qidB q) e w2 → e = .returned (.tuple #[]) ∧ RowInv w g qs (j + 1) w2) := by
        rintro e w2 ⟨v2, rfl, o2, f2, g2⟩
        refine ⟨rfl, v2, by rw [hs]; exact o2, hK.trans (f2.below hK.size (fun i hi h => by have := hO.foot_lt h; omega))⟩
      clear hO hK hq hs hqe hrel hxs hb hl hl2
      go_wp2_with fail
      refine C.out.mono ?_
      intro e w2 hst
      obtain ⟨rfl, hR⟩ := fin.out e w2 hst
      have R := Lib.hid hR
      clear hst hR C fin c0 c1 c2
      go_wp2
      go_roundw
      case rel => exact ⟨j + 1, by omega, by go_num, R⟩
      case measure => simp [intOf]; omega
    · have : j = qs.length := by omega
      subst this
      obtain ⟨v, hO, hK⟩ := hrel.out
      rw [List.take_length] at hO
      have hl := qidsB_length qs
      have hO' := Lib.hid hO
      have hK' := Lib.hid hK
      clear hO hK hrel
      go_wp2_with fail
      refine (bytes_any _ _ _ _ wr hO'.out (by omega)).mono ?_
      rintro e w2 ⟨v2, rfl, a2, b2⟩
      have K2 := Lib.hid (hK'.out.trans (b2.mono hK'.out.size))
      have A2 := Lib.hid (owns_SlIs a2)
      obtain ⟨A3, c3, rfl, _⟩ := owns_slice a2
      rw [hl] at A2 ⊢
      have e13 : (((13 * qs.length : Nat) : Int) != 13 * (qs.length : Int)) = false := by simp
      clear a2 b2 hO' hK'
      go_wp2_with fail
      refine (of_any _ _ _ _ w2 A2.out (Nat.le_refl _) (by omega)).mono ?_
      rintro e w3 ⟨gd, rfl, a3, b3⟩
      have hgd := a3.lt
      have hlo := K2.out.size
      have R2 : Hid (RowInv2 w w2.heap.size gd qs 0 w3) := ⟨a3, K2.out.trans (b3.mono K2.out.size)⟩
      clear a3 b3 K2 A2
      go_wp2_with fail
      go_loopw [7] (fun i wr => ∃ j : Nat, j ≤ qs.length ∧ i = .int .i64 j ∧ Hid (RowInv2 w w2.heap.size gd qs j wr)) (fun i _ => qs.length - (intOf i).toNat)
      case atStart => exact ⟨0, Nat.zero_le _, rfl, R2⟩
      case round =>
        obtain ⟨j, hj, rfl, hrel⟩ := hrel
        clear R2
        by_cases hlt : j < qs.length
        · obtain ⟨hI, hK⟩ := hrel.out
          obtain ⟨ad, rfl, hadH, hxs⟩ := HX.out (by omega)
          obtain ⟨hq, c0, c1, c2⟩ := hxs j hlt
          have hb : (ad.add (j * 3)).block < w.heap.size := by rw [addr_block]; exact hadH
          replace c0 := (hK.cell hb).trans c0
          replace c1 := (hK.cell (p := ⟨(ad.add (j * 3)).block, (ad.add (j * 3)).off + 1, none⟩) hb).trans c1
          replace c2 := (hK.cell (p := ⟨(ad.add (j * 3)).block, (ad.add (j * 3)).off + 2, none⟩) hb).trans c2
          have hs := qidsB_drop qs j hlt
          obtain ⟨q, hqe⟩ : ∃ q, q = qs[j] := ⟨_, rfl⟩
          rw [← hqe] at hq c0 c1 c2 hs
          have i0 : (0 : Int) ≤ (j : Int) := by omega
          have i1 : (j : Int) < (qs.length : Int) := by omega
          have CT : Hid (∀ W, Only (fun _ => False) wr W → Calls Try.prog 13 #[.pointer (some ⟨gd, 0, none⟩)] W fun e w' => e = .returned (.agg #[.int .u8 (q.t : Int), .int .u32 (q.v : Int), .int .u64 (q.p : Int)]) ∧
              (w'.cell? (ad.add (j * 3)) = some (.int .u8 (q.t : Int)) ∧ w'.cell? ⟨(ad.add (j * 3)).block, (ad.add (j * 3)).off + 1, none⟩ = some (.int .u32 (q.v : Int)) ∧ w'.cell? ⟨(ad.add (j * 3)).block, (ad.add (j * 3)).off + 2, none⟩ = some (.int .u64 (q.p : Int))) ∧
              RowInv2 w w2.heap.size gd qs (j + 1) w') := by
            intro W hW
            have k := qidtake_any w2.heap.size gd _ 0 W (hI.only hW (fun _ _ _ h => h))
            rw [hs, qTake_item q _ hq] at k
            refine k.mono ?_
            rintro e w' ⟨he, hi', hf⟩
            have hf' : Only (fun i => i = gd) wr w' := (hW.mono (fun _ _ h => h.elim)).trans hf (fun _ _ h => h)
            have hsz := hK.size
            have n1 : (ad.add (j * 3)).block < wr.heap.size := by omega
            have n2 : ¬ (ad.add (j * 3)).block = gd := by omega
            exact ⟨he, ⟨(hf'.cell n1 n2).trans c0, (hf'.cell (p := ⟨(ad.add (j * 3)).block, (ad.add (j * 3)).off + 1, none⟩) n1 n2).trans c1, (hf'.cell (p := ⟨(ad.add (j * 3)).block, (ad.add (j * 3)).off + 2, none⟩) n1 n2).trans c2⟩,
              hi', hK.trans (hf'.below hsz (fun i hi h => by omega))⟩
          clear hI hK hq hs hqe hrel hxs hb
          go_wp2_with fail
          go_region_held3 (fun w' => w'.cell? (ad.add (j * 3)) = some (.int .u8 (q.t : Int)) ∧ w'.cell? ⟨(ad.add (j * 3)).block, (ad.add (j * 3)).off + 1, none⟩ = some (.int .u32 (q.v : Int)) ∧ w'.cell? ⟨(ad.add (j * 3)).block, (ad.add (j * 3)).off + 2, none⟩ = some (.int .u64 (q.p : Int)))
            (first | exact ⟨c0, c1, c2⟩ | go_keep)
            (first | (go_at_call 13; refine (CT.out _ (by exact ((Only.refl _ _).drew))).mono ?_; rintro e w4 ⟨rfl, ⟨c0, c1, c2⟩, r4⟩; have R := Lib.hid r4; clear r4) | fail)
          go_wp2
          go_roundw
          case rel => exact ⟨j + 1, by omega, by go_num, R⟩
          case measure => simp [intOf]; omega
        · have : j = qs.length := by omega
          subst this
          obtain ⟨hI, hK⟩ := hrel.out
          rw [List.drop_length] at hI
          have HI := Lib.hid hI
          have HK := Lib.hid hK
          clear hI hK hrel
          go_wp2_with fail
          refine (left_any _ gd _ 0 wr HI.out).mono ?_
          rintro e w' ⟨rfl, rfl⟩
          rw [show ((qidsB []).length : Int) = 0 from rfl]
          go_wp2_with fail
          refine (err_any _ gd _ 0 wr HI.out).mono ?_
          rintro e w' ⟨rfl, rfl⟩
          go_wp2
          go_ret
          exact ⟨rfl, HK.out⟩
end Go.Proofs.Ythdjpbhmdfojeaa
