/-
  MapBytes' walk: bytes that are a map.
-/
import Derived.Test.YtaenobgpbphlfaaDoorLaw9Bytes
namespace Go.Proofs.YtaenobgpbphlfaaDoor
open Go.RowKit Go.Lib
set_option maxRecDepth 100000

theorem has_marks (bs : List UInt8) (n k : Nat) (hk : k < n) : hasB (marksOf bs n) (k : Int) = bbit bs k := by
  unfold hasB
  rw [thereB_nat, Int.toNat_natCast, marks_get _ _ _ hk]
  have : k < (marksOf bs n).length := by simpa [marksOf] using hk
  simp [this]
section
variable (w : World) (hT : Tz w) (ad : Addr) (bs : List UInt8) (c : Nat) (hx : SlIs w 0 w.heap.size (.slice (some ad) bs.length c) bs) (hl : bs.length ≤ 1000)
include hT hx hl
set_option maxHeartbeats 4000000 in
theorem mbytes_yes (n : Nat) (h1 : 1 ≤ n) (h2 : n ≤ 65536) (hmay : mayMap bs n) : Calls Tryd.prog 4 #[.slice (some ad) bs.length c, .int .i64 (n : Int)] w fun e w' => e = .returned (.bool true) ∧ Below w.heap.size w w' := by
  have C0 := Lib.hid (known9_any w hT)
  have C1 : Hid (∀ wr, Below w.heap.size w wr → Calls Tryd.prog 15 #[.slice (some ad) bs.length c, .int .i64 (n : Int)] wr fun e w' => ∃ g gw cw, e = .returned (.tuple #[.pointer (some ⟨g, 0, none⟩), .int .i64 0]) ∧ Lm w g gw cw (marksOf bs n) w') := Lib.hid (fun wr b => (load_yes 0 w.heap.size _ bs wr (hx.only (Only.of_below b) (Nat.le_refl _) (fun i _ hi h => by omega)) n h1 h2 hmay).mono fun e w' hh => by
    obtain ⟨v, ws, rfl, hb⟩ := hh
    obtain ⟨g, gw, cw, rfl, l, _⟩ := Lm.born hb b
    exact ⟨g, gw, cw, rfl, l⟩)
  have HT9 := Lib.hid (hmay.tells h1)
  obtain ⟨he, hno⟩ := id hmay
  have d1 : decide ((n : Int) < 1) = false := decide_eq_false (by omega)
  have d2 : decide ((65536 : Int) < (n : Int)) = false := decide_eq_false (by omega)
  have hcl : Hid (∀ W, Below w.heap.size w W → ∀ k, k < bs.length → W.cell? (ad.add k) = some (.int .u8 ((bs.getD k 0).toNat : Int))) := Lib.hid (fun W b k hk => by
    obtain ⟨A', c', e, _, _, hr⟩ := hx
    injection e with ea _ _
    subst ea
    obtain ⟨ad', e, _, _, hc⟩ := hr.at hk
    injection e with e
    subst e
    rw [← getD_in bs 0 k hk] at hc
    exact (b.cell (World.block_lt_of_cell? w _ hc)).trans hc)
  have hsl : Hid (∀ W, Below w.heap.size w W → SlIs W 0 w.heap.size (.slice (some ad) bs.length c) bs) := Lib.hid (fun W b => hx.only (Only.of_below b) (Nat.le_refl _) (fun i _ hi h => by omega))
  obtain ⟨q, hq⟩ : ∃ q, q = (n + 7) / 8 - 1 := ⟨_, rfl⟩
  have hbq : bs.length = q + 1 := by omega
  rw [← hq] at hno
  have hn8 : n ≤ 8 * q + 8 ∧ 8 * q < n := by omega
  have hB := Lib.hid hbq
  have cq : Hid (∀ W, Below w.heap.size w W → W.cell? (ad.add q) = some (.int .u8 ((bs.getD q 0).toNat : Int))) := Lib.hid (fun W b => hcl.out W b q (by omega))
  have hv := (bs.getD q 0).toNat_lt
  have dd : decide ((0 : Int) < (n : Int) % 8) = false ∨ (decide ((0 : Int) < (n : Int) % 8) = true ∧ (((bs.getD q 0).toNat : Int) / 2 ^ (n % 8) != 0) = false) := by
    by_cases h0 : n % 8 = 0
    · exact .inl (decide_eq_false (by omega))
    · refine .inr ⟨decide_eq_true (by omega), (last_bits _ _).trans (decide_eq_false (fun h => h ?_))⟩
      rw [show n - q * 8 = n % 8 by omega] at hno
      exact hno
  generalize (bs.getD q 0).toNat = v at *
  have CH : Hid (∀ g gw cw wr k m, k < n → Lm w g gw cw (marksOf bs n) wr → Calls Tryd.prog 17 #[.pointer (some ⟨g, 0, none⟩), .int .i64 (k : Int)] (wr.drewN m) fun e w' => e = .returned (.bool (bbit bs k)) ∧ w' = wr.drewN m) := Lib.hid (fun g gw cw wr k m hk l => by
    have := has_any g gw cw _ (k : Int) (wr.drewN m) (l.mp.calm (Calm.drewN _ _))
    rw [has_marks bs n k hk] at this
    exact this.mono fun e w' hh => ⟨hh.1, hh.2.symm⟩)
  rw [hbq] at C1 hsl ⊢
  have d3 : ((q : Int) + 1 != ((n : Int) + 7) / 8) = false := by
    simp only [bne_eq_false_iff_eq]
    omega
  have d4 : ((q : Int) + 1 == ((n : Int) + 7) / 8) = true := by
    simp only [beq_iff_eq]
    omega
  have hq2 : q ≤ 999 := by omega
  have d6 : decide ((1000 : Int) < (q : Int) + 1) = false := decide_eq_false (by omega)
  obtain ⟨n8, n9⟩ := hn8
  clear hT hx he hno hq hbq hl hmay
  rcases dd with d5 | ⟨d5, dv⟩
  all_goals
    go_enter Tryd.func4, Tryd.ntmps4
    go_wp2_with fail
    refine C0.out.mono ?_
    rintro e w1 ⟨rfl, b1⟩
    have D1 := Lib.hid (C1.out w1 b1)
    clear b1 C0 C1
    go_wp2_with fail
    with_reducible refine D1.out.mono ?_
    rintro e w2 ⟨g, gw, cw, rfl, l2⟩
    have cc := cq.out w2 l2.low
    have I0 := Lib.hid l2
    clear l2 D1 cq
    go_wp2
    go_loopw [8] (fun i wr => ∃ k : Nat, k ≤ n ∧ i = .int .i64 (k : Int) ∧ Hid (Lm w g gw cw (marksOf bs n) wr)) (fun i _ => n - (intOf i).toNat)
    case atStart => exact ⟨0, Nat.zero_le _, rfl, I0⟩
    case round =>
      obtain ⟨k, hk, rfl, hrel⟩ := hrel
      clear I0 cc
      by_cases hlt : k < n
      · have ck := hcl.out wr hrel.out.low (k / 8) (by rw [hB.out]; omega)
        have D2 : Hid (∀ m, Calls Tryd.prog 17 #[.pointer (some ⟨g, 0, none⟩), .int .i64 (k : Int)] (wr.drewN m) fun e w' => e = .returned (.bool (bbit bs k)) ∧ w' = wr.drewN m) := Lib.hid (fun m => CH.out g gw cw wr k m hlt hrel.out)
        have B := shr_and8 (bs.getD (k / 8) 0).toNat (k % 8) (bs.getD (k / 8) 0).toNat_lt
        have R : Hid (∀ m, Lm w g gw cw (marksOf bs n) (wr.drewN m)) := Lib.hid (fun m => hrel.out.calm (Calm.drewN _ _))
        have hz := (bs.getD (k / 8) 0).toNat_lt
        rw [show (bs.getD (k / 8) 0).toNat.testBit (k % 8) = bbit bs k from rfl] at B
        generalize bbit bs k = y at *
        generalize (bs.getD (k / 8) 0).toNat = z at *
        have i1 : ((k / 8 : Nat) : Int) < (q : Int) + 1 := by omega
        clear hrel CH
        go_wp2
        go_quiet ((go_at_call 17; exact Calls.quiet_of_same (D2.out _)))
        go_wp2
        go_roundw
        case rel => exact ⟨k + 1, by omega, by go_num, Lib.hid (R.out _)⟩
        case measure => simp [intOf]; omega
      · have d7 : decide ((k : Int) < (n : Int)) = false := decide_eq_false (by omega)
        have l := hrel.out
        have CB : Hid (∀ W, Calm wr W → Calls Tryd.prog 16 #[.pointer (some ⟨g, 0, none⟩)] W fun e w' => ∃ v, e = .returned v ∧ (convert 39 9 v).run Tryd.prog w' = .ok (.string (strOf bs)) w' ∧ (convert 39 9 (.slice (some ad) (q + 1) c)).run Tryd.prog w' = .ok (.string (strOf bs)) w' ∧ Below w.heap.size w w') := Lib.hid (fun W kW => by
          have lW := l.calm kW
          refine (bytes_any9 g gw cw _ W lW.mp).mono fun e w' hh => ?_
          obtain ⟨v, rfl, bs', t, o, k2⟩ := hh
          obtain rfl := t.uniq HT9.out
          have l2 := lW.calm k2
          exact ⟨v, rfl, run_str v _ _ _ w' (owns_SlIs o), run_str _ _ _ _ w' (hsl.out w' l2.low), l2.low⟩)
        have e1 : (convert 39 9 (.slice (some ad) (q + 1) c)).run Tryd.prog wr.drew = .ok (.string (strOf bs)) wr.drew :=
          run_str _ _ _ _ _ (hsl.out wr.drew (l.calm (Calm.drewN wr 1)).low)
        clear l hrel CH
        go_upto_region 22 with fail
        go_region_with (first | (go_at_call 16; refine (CB.out _ (by exact Calm.drewN _ 1)).mono ?_; rintro e w3 ⟨v3, rfl, e2, e3, b3⟩; have R3 := Lib.hid b3; clear b3))
        all_goals
          go_wp2
          go_ret
          exact ⟨rfl, R3.out⟩
end
end Go.Proofs.YtaenobgpbphlfaaDoor
