/-
  Layer 11's own 'bad': of 64 bytes that are no inode's it says yes.
-/
import Derived.Test.YtjlipfddbpgglaaLaw11Good
import Derived.Test.YtjlipfddbpgglaaInoC
namespace Go.Proofs.Ytjlipfddbpgglaa
open Go.RowKit Go.Lib
set_option maxRecDepth 100000

theorem i64_or8' (b c : Nat) (hb : b < 256) (hc : c < 256) : bits .or .i64 (b : Int) ((c : Int) * 256) = ((b + 256 * c : Nat) : Int) := by
  have e : (c : Int) * (256 : Int) = ((c <<< 8 : Nat) : Int) := by rw [Nat.shiftLeft_eq]; omega
  have h8 : c <<< 8 ||| b = c <<< 8 + b := (Nat.shiftLeft_add_eq_or_of_lt (by omega) c).symm
  have hs : c <<< 8 = c * 256 := Nat.shiftLeft_eq c 8
  rw [e]
  show IntKind.i64.wrap ((BitVec.ofInt 64 (b : Int) ||| BitVec.ofInt 64 ((c <<< 8 : Nat) : Int)).toNat : Int) = _
  rw [BitVec.toNat_or, ofInt_u64 b (by omega), ofInt_u64 (c <<< 8) (by omega), Nat.or_comm, h8, IntWalk.i64_in _ (by omega)]
  omega
theorem u32_or_up (v c k m : Nat) (hk : k ≤ 24) (hm : 2 ^ k = m) (hv : v < m) (hc : c < 256) : bits .or .u32 (v : Int) ((c : Int) * (m : Int)) = ((v + m * c : Nat) : Int) := by
  have h2 : m ≤ 16777216 := by rw [← hm]; exact Nat.pow_le_pow_right (by omega) hk
  have hcm : c * m < 4294967296 := by
    have : c * m ≤ 255 * m := Nat.mul_le_mul_right _ (by omega)
    omega
  have e : (c : Int) * (m : Int) = ((c <<< k : Nat) : Int) := by rw [Nat.shiftLeft_eq, hm, Int.natCast_mul]
  have h8 : c <<< k ||| v = c <<< k + v := (Nat.shiftLeft_add_eq_or_of_lt (by rw [hm]; exact hv) c).symm
  have hs : c <<< k = c * m := by rw [Nat.shiftLeft_eq, hm]
  rw [e, u32_or_nat _ _ (by omega) (by omega), Nat.or_comm, h8, hs]
  rw [Nat.mul_comm c m, Nat.add_comm]
theorem at2_le {bs : List UInt8} (h : bs.length = 64) : le (at2 bs 12) = bs[12].toNat + 256 * bs[13].toNat := by
  have e : at2 bs 12 = [bs[12], bs[13]] := by
    unfold at2
    rw [List.drop_eq_getElem_cons (by omega), List.drop_eq_getElem_cons (by omega)]
    rfl
  rw [e]
  simp [le]
theorem at4_le {bs : List UInt8} (h : bs.length = 64) : le (at4 bs 8) = bs[8].toNat + 256 * bs[9].toNat + 65536 * bs[10].toNat + 16777216 * bs[11].toNat := by
  have e : at4 bs 8 = [bs[8], bs[9], bs[10], bs[11]] := by
    unfold at4
    rw [List.drop_eq_getElem_cons (by omega), List.drop_eq_getElem_cons (by omega), List.drop_eq_getElem_cons (by omega), List.drop_eq_getElem_cons (by omega)]
    rfl
  rw [e]
  simp only [le]
  omega

/-- What bad answers of 64 bytes. -/
def BadAns (w : World) (bs : List UInt8) (e : Ending) (w' : World) : Prop := ∃ r : Bool, e = .returned (.bool r) ∧ (r = false → Good bs) ∧ Still w w'
theorem BadAns.yes {w w' : World} {bs : List UInt8} (k : Still w w') : BadAns w bs (.returned (.bool true)) w' := ⟨true, rfl, (fun h => by cases h), k⟩
set_option maxHeartbeats 4000000 in
theorem bad_any (ad : Addr) (c lo hi : Nat) (bs : List UInt8) (w : World) (h : SlIs w lo hi (.slice (some ad) 64 c) bs) (hh : hi ≤ w.heap.size) (hl : bs.length = 64) :
    Calls Try.prog 13 #[.slice (some ad) 64 c] w (BadAns w bs) := by
  have HX : Hid (∀ W, Still w W → ∀ k (hk : k < 64), W.cell? (ad.add k) = some (.int .u8 ((bs[k]'(by omega)).toNat : Int))) := Lib.hid (fun W k j hj => by
    obtain ⟨A, c', e, _, _, hr⟩ := k.slis h hh
    injection e with e1 _ _
    subst e1
    obtain ⟨ad', e, _, _, hc⟩ := hr.at (k := j) (by omega)
    injection e with e
    subst e
    exact hc)
  have HL := Lib.hid hl
  have R0 : Hid (∀ n, Still w (w.drewN n)) := Lib.hid (fun n => (Still.refl w).drewN n)
  obtain ⟨x14, h14⟩ : ∃ x, x = bs[14] := ⟨_, rfl⟩
  obtain ⟨x15, h15⟩ : ∃ x, x = bs[15] := ⟨_, rfl⟩
  obtain ⟨x12, h12⟩ : ∃ x, x = bs[12] := ⟨_, rfl⟩
  obtain ⟨x13, h13⟩ : ∃ x, x = bs[13] := ⟨_, rfl⟩
  have c14 : w.cell? ⟨ad.block, ad.off + 14, none⟩ = some (.int .u8 (x14.toNat : Int)) := by rw [h14]; exact HX.out w (Still.refl w) 14 (by decide)
  have c15 : w.cell? ⟨ad.block, ad.off + 15, none⟩ = some (.int .u8 (x15.toNat : Int)) := by rw [h15]; exact HX.out w (Still.refl w) 15 (by decide)
  have c12 : w.cell? ⟨ad.block, ad.off + 12, none⟩ = some (.int .u8 (x12.toNat : Int)) := by rw [h12]; exact HX.out w (Still.refl w) 12 (by decide)
  have c13 : w.cell? ⟨ad.block, ad.off + 13, none⟩ = some (.int .u8 (x13.toNat : Int)) := by rw [h13]; exact HX.out w (Still.refl w) 13 (by decide)
  by_cases z14 : x14 = 0
  rotate_left
  · have e14 : ¬ ((x14.toNat : Int) = 0) := fun hh => z14 (UInt8.toNat_inj.1 (by simpa using hh))
    have e14b : ((x14.toNat : Int) != 0) = true := by simpa using e14
    generalize (x14.toNat : Int) = n14 at *
    clear c15 c12 c13 h z14 h14 h15 h12 h13
    go_enter Try.func13, Try.ntmps13
    go_wp2
    go_quiet (fail)
    go_wp2
    go_ret
    exact BadAns.yes (R0.out _)
  subst z14
  have c14 : w.cell? ⟨ad.block, ad.off + 14, none⟩ = some (.int .u8 0) := c14
  by_cases z15 : x15 = 0
  rotate_left
  · have e15 : ¬ ((x15.toNat : Int) = 0) := fun hh => z15 (UInt8.toNat_inj.1 (by simpa using hh))
    have e15b : ((x15.toNat : Int) != 0) = true := by simpa using e15
    generalize (x15.toNat : Int) = n15 at *
    clear c12 c13 h z15 h14 h15 h12 h13
    go_enter Try.func13, Try.ntmps13
    go_wp2
    go_quiet (fail)
    go_wp2
    go_ret
    exact BadAns.yes (R0.out _)
  subst z15
  have c15 : w.cell? ⟨ad.block, ad.off + 15, none⟩ = some (.int .u8 0) := c15
  have l12 := x12.toNat_lt
  have l13 := x13.toNat_lt
  have hor := i64_or8' x12.toNat x13.toNat l12 l13
  have w1 : IntKind.i64.wrap (x12.toNat : Int) = (x12.toNat : Int) := IntWalk.i64_in _ (by omega)
  have w2 : IntKind.i64.wrap (x13.toNat : Int) = (x13.toNat : Int) := IntWalk.i64_in _ (by omega)
  have w3 : IntKind.i64.wrap ((x13.toNat : Int) * 256) = (x13.toNat : Int) * 256 := IntWalk.i64_in _ (by omega)
  have HK : Hid (le (at2 bs 12) = x12.toNat + 256 * x13.toNat) := Lib.hid (by rw [h12, h13]; exact at2_le hl)
  by_cases zl : x12.toNat + 256 * x13.toNat ≤ 1000
  rotate_left
  · have dl : decide (1000 < (((x12.toNat + 256 * x13.toNat : Nat)) : Int)) = true := decide_eq_true (by omega)
    clear h h14 h15 h12 h13 HK
    generalize x12.toNat + 256 * x13.toNat = L at *
    go_enter Try.func13, Try.ntmps13
    go_wp2
    go_quiet (fail)
    go_wp2
    go_ret
    exact BadAns.yes (R0.out _)
  have dl : decide (1000 < (((x12.toNat + 256 * x13.toNat : Nat)) : Int)) = false := decide_eq_false (by omega)
  have G1 : Hid ((∀ k, k = 14 ∨ k = 15 → bs[k]? = some 0) ∧ le (at2 bs 12) ≤ 1000) := Lib.hid ⟨by
    rintro k (rfl | rfl)
    · rw [List.getElem?_eq_getElem (by omega), ← h14]
    · rw [List.getElem?_eq_getElem (by omega), ← h15], by rw [HK.out]; exact zl⟩
  clear h h14 h15 h12 h13 HK zl
  generalize x12.toNat + 256 * x13.toNat = L at *
  go_enter Try.func13, Try.ntmps13
  go_wp2
  go_quiet (fail)
  have I0 : Hid (Still w (w.drewN nq) ∧ ∀ j, j < 0 → bs[16 + 4 * j + 2]? = some 0 ∧ bs[16 + 4 * j + 3]? = some 0) := Lib.hid ⟨R0.out nq, fun j hj => by omega⟩
  clear c14 c15 c12 c13 hor w1 w2 w3 dl l12 l13
  go_wp2
  go_loopw [3] (fun i wr => ∃ j : Nat, j ≤ 10 ∧ i = .int .i64 (16 + 4 * (j : Int)) ∧ Hid (Still w wr ∧ ∀ k, k < j → bs[16 + 4 * k + 2]? = some 0 ∧ bs[16 + 4 * k + 3]? = some 0)) (fun i _ => 60 - (intOf i).toNat)
  case atStart => exact ⟨0, by decide, rfl, I0⟩
  case round =>
    obtain ⟨j, hj, rfl, hrel⟩ := hrel
    clear I0
    by_cases hjl : j < 10
    · obtain ⟨x, hx⟩ : ∃ x, x = bs[16 + 4 * j + 2] := ⟨_, rfl⟩
      obtain ⟨y, hy⟩ : ∃ y, y = bs[16 + 4 * j + 3] := ⟨_, rfl⟩
      have cx : wr.cell? ⟨ad.block, ad.off + (16 + 4 * j + 1 + 1), none⟩ = some (.int .u8 (x.toNat : Int)) := by rw [hx]; exact HX.out wr hrel.out.1 (16 + 4 * j + 2) (by omega)
      have cy : wr.cell? ⟨ad.block, ad.off + (16 + 4 * j + 1 + 1 + 1), none⟩ = some (.int .u8 (y.toNat : Int)) := by rw [hy]; exact HX.out wr hrel.out.1 (16 + 4 * j + 3) (by omega)
      have KW := Lib.hid hrel.out.1
      by_cases zx : x = 0
      rotate_left
      · have e1 : ¬ ((x.toNat : Int) = 0) := fun hh => zx (UInt8.toNat_inj.1 (by simpa using hh))
        have e2 : ((x.toNat : Int) != 0) = true := by simpa using e1
        generalize (x.toNat : Int) = n at *
        clear hx hy zx cy hrel
        go_wp2
        go_ret
        exact BadAns.yes KW.out
      subst zx
      have cx : wr.cell? ⟨ad.block, ad.off + (16 + 4 * j + 1 + 1), none⟩ = some (.int .u8 0) := cx
      by_cases zy : y = 0
      rotate_left
      · have e1 : ¬ ((y.toNat : Int) = 0) := fun hh => zy (UInt8.toNat_inj.1 (by simpa using hh))
        have e2 : ((y.toNat : Int) != 0) = true := by simpa using e1
        generalize (y.toNat : Int) = n at *
        clear hx hy zy hrel
        go_wp2
        go_ret
        exact BadAns.yes KW.out
      subst zy
      have cy : wr.cell? ⟨ad.block, ad.off + (16 + 4 * j + 1 + 1 + 1), none⟩ = some (.int .u8 0) := cy
      have R : Hid (Still w wr ∧ ∀ k, k < j + 1 → bs[16 + 4 * k + 2]? = some 0 ∧ bs[16 + 4 * k + 3]? = some 0) := Lib.hid ⟨KW.out, fun k hk => by
        by_cases hkj : k < j
        · exact hrel.out.2 k hkj
        · have : k = j := by omega
          subst this
          exact ⟨by rw [List.getElem?_eq_getElem (by omega), ← hx], by rw [List.getElem?_eq_getElem (by omega), ← hy]⟩⟩
      clear hx hy hrel KW
      go_wp2
      go_roundw
      case rel => exact ⟨j + 1, by omega, by go_num, R⟩
      case measure => simp [intOf]; omega
    · have hj10 : j = 10 := by omega
      subst hj10
      have G2 := Lib.hid hrel.out.2
      have I1 : Hid (Still w wr ∧ ∀ k, 56 ≤ k → k < 56 → bs[k]? = some 0) := Lib.hid ⟨hrel.out.1, fun k h1 h2 => by omega⟩
      clear hrel
      go_wp2
      go_loopw [4] (fun i wr => ∃ j : Nat, 56 ≤ j ∧ j ≤ 64 ∧ i = .int .i64 (j : Int) ∧ Hid (Still w wr ∧ ∀ k, 56 ≤ k → k < j → bs[k]? = some 0)) (fun i _ => 64 - (intOf i).toNat)
      case atStart => exact ⟨56, by decide, by decide, rfl, I1⟩
      case round =>
        obtain ⟨j, hj1, hj2, rfl, hrel⟩ := hrel
        clear I1
        by_cases hjl : j < 64
        · obtain ⟨x, hx⟩ : ∃ x, x = bs[j] := ⟨_, rfl⟩
          have cx : wr.cell? (ad.add j) = some (.int .u8 (x.toNat : Int)) := by rw [hx]; exact HX.out wr hrel.out.1 j (by omega)
          have KW := Lib.hid hrel.out.1
          by_cases zx : x = 0
          rotate_left
          · have e1 : ¬ ((x.toNat : Int) = 0) := fun hh => zx (UInt8.toNat_inj.1 (by simpa using hh))
            have e2 : ((x.toNat : Int) != 0) = true := by simpa using e1
            generalize (x.toNat : Int) = n at *
            clear hx zx hrel
            go_wp2
            go_ret
            exact BadAns.yes KW.out
          subst zx
          have cx : wr.cell? (ad.add j) = some (.int .u8 0) := cx
          have R : Hid (Still w wr ∧ ∀ k, 56 ≤ k → k < j + 1 → bs[k]? = some 0) := Lib.hid ⟨KW.out, fun k h1 hk => by
            by_cases hkj : k < j
            · exact hrel.out.2 k h1 hkj
            · have : k = j := by omega
              subst this
              rw [List.getElem?_eq_getElem (by omega), ← hx]⟩
          clear hx hrel KW
          go_wp2
          go_roundw
          case rel => exact ⟨j + 1, by omega, by omega, by go_num, R⟩
          case measure => simp [intOf]; omega
        · have hj64 : j = 64 := by omega
          subst hj64
          have KW := Lib.hid hrel.out.1
          have HT := Lib.hid hrel.out.2
          obtain ⟨y0, h0⟩ : ∃ x, x = bs[8] := ⟨_, rfl⟩
          obtain ⟨y1, h1⟩ : ∃ x, x = bs[9] := ⟨_, rfl⟩
          obtain ⟨y2, h2⟩ : ∃ x, x = bs[10] := ⟨_, rfl⟩
          obtain ⟨y3, h3⟩ : ∃ x, x = bs[11] := ⟨_, rfl⟩
          have c8 : wr.cell? ⟨ad.block, ad.off + 8, none⟩ = some (.int .u8 (y0.toNat : Int)) := by rw [h0]; exact HX.out wr hrel.out.1 8 (by decide)
          have c9 : wr.cell? ⟨ad.block, ad.off + 9, none⟩ = some (.int .u8 (y1.toNat : Int)) := by rw [h1]; exact HX.out wr hrel.out.1 9 (by decide)
          have c10 : wr.cell? ⟨ad.block, ad.off + 10, none⟩ = some (.int .u8 (y2.toNat : Int)) := by rw [h2]; exact HX.out wr hrel.out.1 10 (by decide)
          have c11 : wr.cell? ⟨ad.block, ad.off + 11, none⟩ = some (.int .u8 (y3.toNat : Int)) := by rw [h3]; exact HX.out wr hrel.out.1 11 (by decide)
          have l0 := y0.toNat_lt
          have l1 := y1.toNat_lt
          have l2 := y2.toNat_lt
          have l3 := y3.toNat_lt
          have o1 := u32_or_up y0.toNat y1.toNat 8 256 (by decide) (by decide) l0 l1
          have o2 := u32_or_up (y0.toNat + 256 * y1.toNat) y2.toNat 16 65536 (by decide) (by decide) (by omega) l2
          have o3 := u32_or_up (y0.toNat + 256 * y1.toNat + 65536 * y2.toNat) y3.toNat 24 16777216 (by decide) (by decide) (by omega) l3
          have OR : Hid (bits .or .u32 (bits .or .u32 (bits .or .u32 (y0.toNat : Int) ((y1.toNat : Int) * 256)) ((y2.toNat : Int) * 65536)) ((y3.toNat : Int) * 16777216) = ((le (at4 bs 8) : Nat) : Int)) := Lib.hid (by
            have o1 : bits .or .u32 (y0.toNat : Int) ((y1.toNat : Int) * 256) = ((y0.toNat + 256 * y1.toNat : Nat) : Int) := o1
            have o2 : bits .or .u32 ((y0.toNat + 256 * y1.toNat : Nat) : Int) ((y2.toNat : Int) * 65536) = ((y0.toNat + 256 * y1.toNat + 65536 * y2.toNat : Nat) : Int) := o2
            have o3 : bits .or .u32 ((y0.toNat + 256 * y1.toNat + 65536 * y2.toNat : Nat) : Int) ((y3.toNat : Int) * 16777216) = ((y0.toNat + 256 * y1.toNat + 65536 * y2.toNat + 16777216 * y3.toNat : Nat) : Int) := o3
            rw [o1, o2, o3, at4_le hl, h0, h1, h2, h3])
          clear h0 h1 h2 h3 hrel o1 o2 o3
          go_wp2
          go_quiet (fail)
          rw [OR.out]
          have KN : Hid (Still w (wr.drewN nq)) := Lib.hid (KW.out.drewN nq)
          have GD : Hid (le (at4 bs 8) ≤ 1073741824 → Good bs) := Lib.hid (fun hs => ⟨HL.out, G1.out.1, G1.out.2, G2.out, HT.out, hs⟩)
          generalize le (at4 bs 8) = N at *
          clear c8 c9 c10 c11 l0 l1 l2 l3 OR KW HT G2
          go_wp2
          go_ret
          exact ⟨decide (1073741824 < (N : Int)), rfl, fun hd => GD.out (by have := of_decide_eq_false hd; omega), KN.out⟩
end Go.Proofs.Ytjlipfddbpgglaa
