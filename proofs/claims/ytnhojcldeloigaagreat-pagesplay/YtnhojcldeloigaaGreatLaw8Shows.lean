/-
  The laws of layer 8: does a book show just these pages?
-/
import Derived.Test.YtnhojcldeloigaaGreatLaw8Page
namespace Go.Proofs.YtnhojcldeloigaaGreat
open Go.RowKit Go.Lib Go.Maps
set_option maxRecDepth 100000

/-- What a book that is on shows. -/
def nowP (ch : Nat → Option (List UInt8)) (P : Nat → List UInt8) (p : Nat) : List UInt8 := (ch p).getD (P p)
def showsOk (k : Nat) (ch : Nat → Option (List UInt8)) (P : Nat → List UInt8) (L : List (List UInt8)) : Prop := ∀ p (h : p < L.length), p < k → L[p] = nowP ch P p
theorem str_ne8 {x y : List UInt8} (h : ¬ x = y) : ((strOf x).toList == (strOf y).toList) = false ∧ ((strOf x).toList != (strOf y).toList) = true ∧ ¬ ((strOf x).toList = (strOf y).toList) := by
  have e : ¬ ((strOf x).toList = (strOf y).toList) := by
    rw [strOf_list, strOf_list]
    exact h
  exact ⟨by simpa using e, by simpa using e, e⟩
theorem Below.drewN {B : Nat} {a b : World} (h : Below B a b) (n : Nat) : Below B a (b.drewN n) := ⟨h.os, h.tape, h.output, h.size, h.block⟩
theorem lv_page {w wr : World} {K : Nat → Prop} {gd gb : Nat} {s : D} {g : BG} {ch : Nat → Option (List UInt8)} {P : Nat → List UInt8} {n j : Nat} (hl : Lv w K gd s gb g ch wr) (hc : Calm g s P n) (hch : ∀ p bs, ch p = some bs → bs.length ≤ 4096) (hj : j < g.k) :
    Calls Tryz.prog 26 #[.pointer (some ⟨gb, 0, none⟩), .int .i64 (j : Int)] wr fun e w' => ∃ A c, e = .returned (.tuple #[.slice A (nowP ch P j).length c, .int .i64 0]) ∧ SlIs w' wr.heap.size w'.heap.size (.slice A (nowP ch P j).length c) (nowP ch P j) ∧ Below wr.heap.size wr w' := by
  obtain ⟨lt, sl, hr⟩ := hc.rest.rep
  have hrs : Rep g s.seen lt sl P := by rw [hc.rest.seen]; exact hr
  have C := lv_read w wr K gd s gb g ch hl (j : Int) lt sl P (fun _ => hrs) hch
  have e : readR g s ch P (j : Int) = (0, nowP ch P j) := by
    unfold readR
    rw [if_pos ⟨by omega, by omega⟩, if_neg (by rw [hc.rest.on]; decide)]
    show (0, (ch (j : Int).toNat).getD (P (j : Int).toNat)) = _
    rw [Int.toNat_natCast]
    rfl
  rw [e] at C
  exact C
set_option maxHeartbeats 4000000 in
theorem shows8_any (w wr : World) (K : Nat → Prop) (gd gb : Nat) (s : D) (g : BG) (ch : Nat → Option (List UInt8)) (P : Nat → List UInt8) (n : Nat) (hl : Lv w K gd s gb g ch wr) (hc : Calm g s P n) (hch : ∀ p bs, ch p = some bs → bs.length ≤ 4096)
    (A : Option Addr) (c : Nat) (L : List (List UInt8)) (hL : RwIs wr (fun i => i < wr.heap.size) L.length (.slice A L.length c) (svs L)) (hk : L.length = g.k) :
    Calls Tryz.prog 22 #[.pointer (some ⟨gb, 0, none⟩), .slice A L.length c] wr fun e w' => (∃ b, e = .returned (.bool b) ∧ (b = true ↔ showsOk g.k ch P L)) ∧ Below wr.heap.size wr w' := by
  have hk1 := hc.rest.ok.k1
  have CP : Hid (Calls Tryz.prog 24 #[.pointer (some ⟨gb, 0, none⟩)] wr fun e w' => e = .returned (.int .i64 (L.length : Int)) ∧ w' = wr) := by
    rw [hk]
    exact (lv_pages w wr K gd s gb g ch hl).mono fun e w' hh => ⟨hh.1, hh.2.symm⟩
  have CR : Hid (∀ w' j, Below wr.heap.size wr w' → j < L.length → Calls Tryz.prog 26 #[.pointer (some ⟨gb, 0, none⟩), .int .i64 (j : Int)] w' fun e w2 => ∃ A c, e = .returned (.tuple #[.slice A (nowP ch P j).length c, .int .i64 0]) ∧ SlIs w2 w'.heap.size w2.heap.size (.slice A (nowP ch P j).length c) (nowP ch P j) ∧ Below w'.heap.size w' w2) := fun w' j k hj => lv_page (hl.below k) hc hch (by omega)
  have HL : Hid (∀ w', Below wr.heap.size wr w' → ∀ j (hj : j < L.length), ∃ ad, A = some ad ∧ w'.cell? (ad.add j) = some (.string (strOf L[j]))) := fun w' k j hj => by
    obtain ⟨A', c', e, h3⟩ := hL.only (Only.of_below k) (fun i _ h1 h2 => by have h2 : wr.heap.size ≤ i := h2; omega)
    injection e with e _ _
    subst e
    obtain ⟨ad, e, _, _, h4⟩ := h3 (by simp [svs]; omega)
    exact ⟨ad, e, h4 j _ (by simp [svs, sv, hj])⟩
  have HK := Lib.hid hk
  have hL4 : L.length ≤ 1024 := by have := hc.rest.ok.k2; omega
  clear hl hc hch hL hk
  go_enter Tryz.func22, Tryz.ntmps22
  go_wp2_with fail
  refine CP.out.mono ?_
  rintro e w1 ⟨rfl, rfl⟩
  clear CP
  go_wp2_with fail
  go_loopw [5] (fun u wx => ∃ (j : Nat), j ≤ L.length ∧ u = .int .i64 j ∧ Hid (Below w1.heap.size w1 wx ∧ ∀ i (h : i < L.length), i < j → L[i] = nowP ch P i)) (fun u _ => L.length - (RowKit.intOf u).toNat)
  case atStart => exact ⟨0, Nat.zero_le _, rfl, Lib.hid ⟨Below.refl _ _, fun i h h2 => absurd h2 (by omega)⟩⟩
  case round =>
    obtain ⟨j, hj, rfl, hrel⟩ := hrel
    obtain ⟨bx, hall⟩ := hrel.out
    have HALL := Lib.hid hall
    have BX := Lib.hid bx
    clear hrel hall bx
    by_cases hlt : j < L.length
    · have hj1 : j + 1 ≤ L.length := hlt
      have HJ1 := Lib.hid hj1
      clear hj1
      have i1 : (j : Int) < (L.length : Int) := by omega
      have i2 : (0 : Int) ≤ (j : Int) := by omega
      have C1 := Lib.hid (CR.out wr j BX.out hlt)
      go_wp2_with fail
      refine C1.out.mono ?_
      rintro e w3 ⟨A3, c3, rfl, x3, b3⟩
      have b4 := BX.out.trans (b3.mono BX.out.size)
      have B4 := Lib.hid b4
      obtain ⟨ad, rfl, hcell⟩ := HL.out w3 b4 j hlt
      have hcell : ∀ n, (w3.drewN n).cell? (ad.add j) = some (.string (strOf L[j])) := fun _ => hcell
      have hrs : ∀ n, (convert 33 9 (.slice A3 (nowP ch P j).length c3)).run Tryz.prog (w3.drewN n) = .ok (.string (strOf (nowP ch P j))) (w3.drewN n) := fun n' => run_str _ _ _ _ _ (x3.only (S := fun _ => False) ⟨rfl, rfl, rfl, Nat.le_refl _, fun _ _ _ => rfl⟩ (Nat.le_refl _) (fun _ _ _ h => h))
      obtain ⟨X, hX⟩ : ∃ X, X = L[j] := ⟨_, rfl⟩
      obtain ⟨Y, hY⟩ : ∃ Y, Y = nowP ch P j := ⟨_, rfl⟩
      rw [← hX] at hcell
      rw [← hY] at hrs ⊢
      have HX := Lib.hid hX
      have HY := Lib.hid hY
      clear x3 b3 b4 C1 BX hX hY
      by_cases he : Y = X
      · have R : Hid (∀ i (h : i < L.length), i < j + 1 → L[i] = nowP ch P i) := fun i h h2 => by
          rcases Nat.lt_or_ge i j with h3 | h3
          · exact HALL.out i h h3
          · have : i = j := by omega
            subst this
            exact HX.out.symm.trans (he.symm.trans HY.out)
        rw [he] at hrs ⊢
        clear he HALL
        go_upto_region 29 with fail
        go_quiet (fail)
        go_wp2
        go_roundw
        case rel =>
          exact ⟨j + 1, HJ1.out, by go_num, Lib.hid ⟨Below.drewN B4.out nq, R.out⟩⟩
        case measure =>
          have := HJ1.out
          simp [RowKit.intOf]
          omega
      · obtain ⟨hne, hne2, hne3⟩ := str_ne8 he
        have R : Hid (¬ showsOk g.k ch P L) := fun h => he (by rw [HX.out, HY.out]; exact (h j hlt (by rw [← HK.out]; exact hlt)).symm)
        clear he HALL
        go_upto_region 29 with fail
        go_quiet (fail)
        go_wp2
        go_ret
        exact ⟨⟨false, rfl, ⟨fun h => (by cases h), fun h => absurd h R.out⟩⟩, Below.drewN B4.out nq⟩
    · have i1 : decide ((j : Int) < (L.length : Int)) = false := decide_eq_false (by omega)
      have R : Hid (showsOk g.k ch P L) := fun p h _ => HALL.out p h (by omega)
      clear HALL
      go_wp2
      go_ret
      exact ⟨⟨true, rfl, ⟨fun _ => R.out, fun _ => rfl⟩⟩, BX.out⟩
end Go.Proofs.YtnhojcldeloigaaGreat
