/-
  NumBytes' walk.
-/
import Derived.Test.YthfddmgphdklfaaLaw1Items
import Derived.Deep.DrawnRows
import Derived.Deep.DeepCutAuto
namespace Go.Proofs.Ythfddmgphdklfaa
open Go.RowKit

/-- What holds at each round's head. -/
def BytesInv (w : World) (lo gd gm : Nat) (bs : List UInt8) (wr : World) : Prop :=
  ∃ rest k er, InAt wr lo gd rest er ∧ RefAt wr w.heap.size gm bs k er ∧ Agree rest bs k er ∧ Below w.heap.size w wr

/-- Behind the first of the two calls of a round. -/
theorem after_one {w wr W w3 : World} {gd gm k : Nat} {bs : List UInt8} {er : Int} {p : Addr} {u : Value} (h0 : Only (fun _ => False) wr W) (b3 : Only (fun i => i = gd) W w3) (hc : wr.cell? p = some u) (hp : p.block < w.heap.size)
    (hgd : w.heap.size ≤ gd) (hg : gd < gm) (hR : RefAt wr w.heap.size gm bs k er) (hK : Below w.heap.size w wr) :
    w3.cell? p = some u ∧ RefAt w3 w.heap.size gm bs k er ∧ Below w.heap.size w w3 := by
  have q : Only (fun i => i = gd) wr w3 := (h0.mono (T := fun i => i = gd) fun _ _ h => h.elim).trans b3 (fun _ _ h => h)
  have hs := hK.size
  refine ⟨(q.cell (by omega) (by omega)).trans hc, hR.only q (by omega) (fun i hi h => by omega), hK.trans (q.below (by omega) (fun i hi h => by omega))⟩
/-- Behind the second. -/
theorem after_two {w w3 W w4 : World} {lo gd gm k' : Nat} {rest' bs : List UInt8} {er' : Int} (h0 : Only (fun _ => False) w3 W) (b4 : Only (fun i => i = gm) W w4) (hgd : w.heap.size ≤ gd) (hg : gd < gm)
    (hI : InAt w3 lo gd rest' er') (hR : RefAt w4 w.heap.size gm bs k' er') (hA : Agree rest' bs k' er') (hK : Below w.heap.size w w3) : Hid (BytesInv w lo gd gm bs w4) ∧ Only (fun i => i = gm) w3 w4 := by
  have q : Only (fun i => i = gm) w3 w4 := (h0.mono (T := fun i => i = gm) fun _ _ h => h.elim).trans b4 (fun _ _ h => h)
  have hs := hK.size
  exact ⟨⟨rest', k', er', hI.only q (fun i _ hi h => by omega), hR, hA, hK.trans (q.below (by omega) (fun i hi h => by omega))⟩, q⟩

attribute [local go_sem ↓] Go.wp_at_zero Go.wp_at_succ
set_option maxHeartbeats 2000000 in
theorem bytes_walk (A : Option Addr) (c : Nat) (bs : List UInt8) (B : Option Addr) (d : Nat) (xs : List It) (w : World) (h1 : bs.length ≤ 1000) (h2 : xs.length ≤ 60)
    (hb : Rd w 0 w.heap.size A bs) (hbc : bs.length ≤ c) (hcm : c ≤ maxLen) (hx : ItemsAt w w.heap.size B xs) :
    Calls Try.prog 4 #[.slice A bs.length c, .slice B xs.length d] w fun e w' => e = .returned (.bool true) ∧ Below w.heap.size w w' := by
  have HB := Lib.hid hb
  have HX := Lib.hid hx
  clear hb hx
  go_enter Try.func4, Try.ntmps4
  go_wp2_with fail
  refine (known1 w).mono ?_
  rintro e w1 ⟨rfl, k1⟩
  have s1 := k1.size
  have HB1 := Lib.hid (HB.out.keep fun q _ hq => k1.cell hq)
  have K1 := Lib.hid k1
  have d1 : decide ((1000 : Int) < (bs.length : Int)) = false := decide_eq_false (by omega)
  have d2 : decide ((60 : Int) < (xs.length : Int)) = false := decide_eq_false (by omega)
  clear k1 HB
  go_wp2_with fail
  refine (of_any _ bs 0 w.heap.size w1 ⟨A, c, rfl, hbc, hcm, HB1.out⟩ s1 (by omega)).mono ?_
  rintro e w2 ⟨gd, rfl, a2, b2⟩
  have s2 := b2.size
  have l2 := a2.lt
  have HB2 := Lib.hid (HB1.out.keep fun q _ hq => b2.cell (by omega))
  have K2 := Lib.hid (K1.out.trans (b2.mono s1))
  have I2 := Lib.hid a2
  have R : Hid (BytesInv w w1.heap.size gd w2.heap.size bs (w2.alloc (.cells #[.slice A bs.length c, .int .i64 0, .int .i64 0] 46))) := by
    have q : Only (fun _ => False) w2 (w2.alloc (.cells #[.slice A bs.length c, .int .i64 0, .int .i64 0] 46)) := (Only.refl _ _).alloc _
    exact ⟨bs, 0, 0, I2.out.only q (fun _ _ _ h => h), ⟨A, c, Has.new _ _ _, hbc, hcm, HB2.out.only q (by omega) (fun _ _ _ h => h), by omega, by omega⟩, ⟨by omega, .inl ⟨rfl, rfl⟩⟩, K2.out.alloc (by omega) _⟩
  clear a2 b2 HB1 HB2 K1 K2 I2
  obtain ⟨gm, hgm⟩ : ∃ gm, gm = w2.heap.size := ⟨_, rfl⟩
  go_wp2_with fail
  rw [← hgm] at R ⊢
  have hgd : gd < gm := by omega
  have hlo : w.heap.size ≤ w1.heap.size := s1
  clear hgm
  go_loopw [7] (fun i wr => ∃ j : Nat, j ≤ xs.length ∧ i = .int .i64 j ∧ Hid (BytesInv w w1.heap.size gd gm bs wr)) (fun i _ => xs.length - (intOf i).toNat)
  case atStart => exact ⟨0, Nat.zero_le _, rfl, R⟩
  case round =>
    obtain ⟨j, hj, rfl, hrel⟩ := hrel
    clear R
    by_cases hlt : j < xs.length
    · obtain ⟨rest, k, er, hI, hRf, hAg, hK⟩ := hrel.out
      obtain ⟨ad, rfl, hadH, hxs⟩ := HX.out (by omega)
      have hit := (hxs j hlt).below hK (by rw [addr_block]; exact hadH)
      obtain ⟨x, hx⟩ : ∃ x, x = xs[j] := ⟨_, rfl⟩
      rw [← hx] at hit
      have c0 := hit.c0
      have c1 := hit.c1
      have i0 : (0 : Int) ≤ (j : Int) := by omega
      have i1 : (j : Int) < (xs.length : Int) := by omega
      obtain ⟨n, hn⟩ : ∃ n, n = x.n := ⟨_, rfl⟩
      rw [← hn] at c1
      have hpb : (ad.add (j * 4)).block < w.heap.size := by rw [addr_block]; exact hadH
      have HPB := Lib.hid hpb
      have hrl := agree_len hAg
      have hgw : gm < wr.heap.size := hRf.lt
      have HI := Lib.hid hI
      have HR := Lib.hid hRf
      have HG := Lib.hid hAg
      have HK := Lib.hid hK
      have HC := Lib.hid c1
      obtain ⟨q, hq⟩ : ∃ q, q = x.is := ⟨_, rfl⟩
      rw [← hq] at c0
      clear hI hRf hAg hK hit hx hn hxs hrel hpb hq
      go_upto_if 36 with fail
      go_cut [8] (fun s8 wx => s8 = .bool true ∧ Hid (BytesInv w w1.heap.size gd gm bs wx))
      case first =>
        cases q with
        | true =>
          obtain ⟨r, rest', k', er', st1, st2, hAg'⟩ := agree_raw n rest bs k er HG.out
          have CR : Hid (∀ W, Only (fun _ => False) wr W → Calls Try.prog 12 #[.pointer (some ⟨gd, 0, none⟩), .int .i64 n] W (RawStep W w1.heap.size gd (r, rest', er'))) := fun W h => by
            rw [← st1]
            exact raw_any _ gd n rest er W (HI.out.only h (fun _ _ _ h => h)) (by omega)
          have CF : Hid (∀ W, RefAt W w.heap.size gm bs k er → Calls Try.prog 16 #[.pointer (some ⟨gm, 0, none⟩), .int .i64 n] W (RefRaw W w.heap.size gm bs (r, k', er'))) := fun W h => by
            rw [← st2]
            exact refraw_any _ gm k n bs er W h (by omega)
          have HA := Lib.hid hAg'
          clear hAg' st1 st2
          go_wp2
          go_region_with (first | (go_at_call 12; refine (CR.out _ (by exact ((Only.refl _ _).drewN _))).mono ?_; rintro e w3 ⟨u3, rfl, r3, a3, b3⟩; obtain ⟨z1, z2, z3⟩ := after_one ((Only.refl _ _).drewN _) b3 HC.out HPB.out (by omega) hgd HR.out HK.out; have e3 := run_str u3 r _ _ w3 (owns_SlIs r3); have Z2 := Lib.hid z2; have Z3 := Lib.hid z3; have R3 : Hid (w3.ownsRow wr.heap.size 5 1 u3 r.length (b8s r)) := r3; have A3 := Lib.hid a3; clear z2 z3 r3 a3 b3) | (go_at_call 16; refine (CF.out _ (by exact Z2.out)).mono ?_; rintro e w4 ⟨u4, rfl, r4, a4, b4⟩; obtain ⟨y1, y2⟩ := after_two (Only.refl _ _) b4 (by omega) hgd A3.out a4 HA.out Z3.out; have e4 := run_str u4 r _ _ w4 (owns_SlIs r4); have e5 := run_str u3 r _ _ w4 (owns_SlIs (owns_only R3.out y2 (fun i h => by have := R3.out.lt i h; omega))); clear y2 r4 a4 b4))
          all_goals
            go_wp2_with fail
            go_meet
            exact ⟨rfl, y1⟩
        | false =>
          obtain ⟨r, rest', k', er', st1, st2, hAg'⟩ := agree_take n rest bs k er HG.out
          have CR : Hid (∀ W, Only (fun _ => False) wr W → Calls Try.prog 13 #[.pointer (some ⟨gd, 0, none⟩), .int .i64 n] W (TakeStep W w1.heap.size gd (r, rest', er'))) := fun W h => by
            rw [← st1]
            exact take_any _ gd n rest er W (HI.out.only h (fun _ _ _ h => h))
          have CF : Hid (∀ W, RefAt W w.heap.size gm bs k er → Calls Try.prog 17 #[.pointer (some ⟨gm, 0, none⟩), .int .i64 n] W (RefTook W w.heap.size gm bs (r, k', er'))) := fun W h => by
            rw [← st2]
            exact reftake_any _ gm k n bs er W h
          have HA := Lib.hid hAg'
          clear hAg' st1 st2
          go_wp2
          go_region_held3 (fun w' => w'.cell? ⟨(ad.add (j * 4)).block, (ad.add (j * 4)).off + 1, none⟩ = some (.int .i64 n)) (first | assumption | go_keep)
            (first | (go_at_call 13; refine (CR.out _ (by exact ((Only.refl _ _).drewN _))).mono ?_; rintro e w3 ⟨rfl, a3, b3⟩; obtain ⟨z1, z2, z3⟩ := after_one ((Only.refl _ _).drewN _) b3 HC.out HPB.out (by omega) hgd HR.out HK.out; have Z2 := Lib.hid z2; have Z3 := Lib.hid z3; have A3 := Lib.hid a3; clear z2 z3 a3 b3) | (go_at_call 17; refine (CF.out _ (by exact Z2.out)).mono ?_; rintro e w4 ⟨rfl, a4, b4⟩; obtain ⟨y1, y2⟩ := after_two (Only.refl _ _) b4 (by omega) hgd A3.out a4 HA.out Z3.out; have z4 := (y2.cell (World.block_lt_of_cell? w3 _ z1) (by have := HPB.out; show ¬ (ad.add (j * 4)).block = gm; omega)).trans z1; clear y2 a4 b4))
          all_goals
            go_wp2_with fail
            go_meet
            exact ⟨rfl, y1⟩
      case rest =>
        obtain ⟨rfl, hinv⟩ := hcut
        obtain ⟨rest2, k2, er2, I2, R2, G2, K2⟩ := hinv.out
        have QL : Hid (∀ n, Calls Try.prog 14 #[.pointer (some ⟨gd, 0, none⟩)] (wc.drewN n) fun e w'' => e = .returned (.int .i64 (rest2.length : Int)) ∧ ∃ m, w'' = wc.drewN m) := fun n =>
          (left_any _ gd rest2 er2 (wc.drewN n) (I2.only ((Only.refl (fun _ => False) wc).drewN n) (fun _ _ _ h => h))).mono fun e w' ⟨he, hw⟩ => ⟨he, n, hw.symm⟩
        have QE : Hid (∀ n, Calls Try.prog 15 #[.pointer (some ⟨gd, 0, none⟩)] (wc.drewN n) fun e w'' => e = .returned (.int .i64 er2) ∧ ∃ m, w'' = wc.drewN m) := fun n =>
          (err_any _ gd rest2 er2 (wc.drewN n) (I2.only ((Only.refl (fun _ => False) wc).drewN n) (fun _ _ _ h => h))).mono fun e w' ⟨he, hw⟩ => ⟨he, n, hw.symm⟩
        have QR : Hid (∀ n, Calls Try.prog 18 #[.pointer (some ⟨gm, 0, none⟩)] (wc.drewN n) fun e w'' => e = .returned (.int .i64 (rest2.length : Int)) ∧ ∃ m, w'' = wc.drewN m) := fun n =>
          (refleft_any _ gm k2 bs er2 (wc.drewN n) (R2.only ((Only.refl (fun _ => False) wc).drewN n) (fun h => h) (fun _ _ h => h))).mono fun e w' ⟨he, m, hw⟩ => ⟨by rw [he, agree_left G2], n + m, by rw [hw, World.drewN_drewN]⟩
        have hfin : Hid (∀ n, BytesInv w w1.heap.size gd gm bs (wc.drewN n)) := fun n =>
          ⟨rest2, k2, er2, I2.only ((Only.refl (fun _ => False) wc).drewN n) (fun _ _ _ h => h), R2.only ((Only.refl (fun _ => False) wc).drewN n) (fun h => h) (fun _ _ h => h), G2, ⟨K2.os, K2.tape, K2.output, K2.size, K2.block⟩⟩
        obtain ⟨A2, c2, h2h, _⟩ := R2
        have cb := h2h.cell 2
        simp at cb
        clear I2 G2 K2 h2h hinv c0 c1 HC HI HR HG HK
        go_wp2
        go_quiet (first | (go_at_call 14; exact QL.out _) | (go_at_call 18; exact QR.out _) | (go_at_call 15; exact QE.out _))
        go_wp2
        go_roundw
        case rel => exact ⟨j + 1, by omega, by go_num, hfin.out _⟩
        case measure => simp [intOf]; omega
    · have K : Below w.heap.size w wr := by
        obtain ⟨_, _, _, _, _, _, h⟩ := hrel.out
        exact h
      have KH := Lib.hid K
      clear K hrel
      go_wp2
      go_ret
      exact ⟨rfl, KH.out⟩
end Go.Proofs.Ythfddmgphdklfaa
