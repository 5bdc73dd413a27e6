/-
  The laws of layer 8: few, shows.
-/
import Derived.Test.YtnhojcldeloigaaGreatOpenActs8
import Derived.Test.YtnhojcldeloigaaGreatLaw8Page
namespace Go.Proofs.YtnhojcldeloigaaGreat
open Go.RowKit Go.Lib Go.Maps
set_option maxRecDepth 100000

def fewOk (xs : List A8) : Prop := xs.length ≤ 40 ∧ ∀ j (h : j < xs.length), xs[j].keep.length ≤ 100
theorem ActAt8.only {w w' : World} {p : Addr} {x : A8} (h : ActAt8 w p x) (k : Below w.heap.size w w') : ActAt8 w' p x := by
  have kk : Only (fun _ => False) w w' := (Only.of_below k).mono (fun i hi h => by have h : w.heap.size ≤ i := h; omega)
  have hp := World.block_lt_of_cell? w _ h.c0
  have q : ∀ {o : Nat} {u : Value}, w.cell? ⟨p.block, o, none⟩ = some u → w'.cell? ⟨p.block, o, none⟩ = some u := fun {o u} hc => (World.cell?_of_block (a := ⟨p.block, o, none⟩) (k.block _ hp)).trans hc
  exact ⟨(World.cell?_of_block (k.block _ hp)).trans h.c0, q h.c1, q h.c2, q h.c3, q h.c4, h.hn, h.hv, (h.hk.only kk (fun _ _ _ h => h)).mono (fun i _ hi => Nat.lt_of_lt_of_le hi k.size)⟩
theorem ActsAt8.only {w w' : World} {A : Option Addr} {xs : List A8} (h : ActsAt8 w A xs) (k : Below w.heap.size w w') : ActsAt8 w' A xs := fun h0 => by
  obtain ⟨ad, e, h1, h2⟩ := h h0
  exact ⟨ad, e, Nat.lt_of_lt_of_le h1 k.size, fun j hj => (h2 j hj).only k⟩
set_option maxHeartbeats 1000000 in
theorem few8_any (A : Option Addr) (c : Nat) (xs : List A8) (w : World) (hA : ActsAt8 w A xs) : Calls Tryz.prog 8 #[.slice A xs.length c] w fun e w' => (∃ b, e = .returned (.bool b) ∧ (b = true ↔ fewOk xs)) ∧ ∃ n, w' = w.drewN n := by
  by_cases hl : xs.length ≤ 40
  · have d1 : decide ((40 : Int) < (xs.length : Int)) = false := decide_eq_false (by omega)
    have HA := Lib.hid hA
    clear hA
    go_enter Tryz.func8, Tryz.ntmps8
    go_wp2_with fail
    go_loopw [3] (fun u wr => ∃ (j : Nat), j ≤ xs.length ∧ u = .int .i64 j ∧ Hid ((∀ i (h : i < xs.length), i < j → xs[i].keep.length ≤ 100) ∧ ∃ n, wr = w.drewN n)) (fun u _ => xs.length - (RowKit.intOf u).toNat)
    case atStart => exact ⟨0, Nat.zero_le _, rfl, Lib.hid ⟨fun i h h2 => absurd h2 (by omega), 0, rfl⟩⟩
    case round =>
      obtain ⟨j, hj, rfl, hrel⟩ := hrel
      obtain ⟨hall, n, rfl⟩ := hrel.out
      have HALL := Lib.hid hall
      clear hrel hall
      by_cases hlt : j < xs.length
      · have i1 : (j : Int) < (xs.length : Int) := by omega
        have i2 : (0 : Int) ≤ (j : Int) := by omega
        obtain ⟨ad, rfl, _, hat⟩ := HA.out (by omega)
        have c4 : (w.drewN n).cell? ⟨(ad.add (j * 5)).block, (ad.add (j * 5)).off + 4, none⟩ = some (.slice xs[j].Ak xs[j].keep.length xs[j].ck) := (hat j hlt).c4
        obtain ⟨kl, hkl⟩ : ∃ kl, kl = xs[j].keep.length := ⟨_, rfl⟩
        rw [← hkl] at c4
        generalize xs[j].Ak = Aj at c4
        generalize xs[j].ck = cj at c4
        have HKL := Lib.hid hkl
        clear hat hkl
        by_cases hk : kl ≤ 100
        · have d2 : decide ((100 : Int) < (kl : Int)) = false := decide_eq_false (by omega)
          have R : Hid (∀ i (h : i < xs.length), i < j + 1 → xs[i].keep.length ≤ 100) := fun i h h2 => by
            rcases Nat.lt_or_ge i j with h3 | h3
            · exact HALL.out i h h3
            · have : i = j := by omega
              subst this
              rw [← HKL.out]
              exact hk
          clear hk HALL
          go_wp2
          go_roundw
          case rel => exact ⟨j + 1, by omega, by go_num, Lib.hid ⟨R.out, n, rfl⟩⟩
          case measure => simp [RowKit.intOf]; omega
        · have i3 : (100 : Int) < (kl : Int) := by omega
          have R : Hid (¬ fewOk xs) := fun h => hk (by rw [HKL.out]; exact h.2 j hlt)
          clear hk HALL
          go_wp2
          go_ret
          exact ⟨⟨false, rfl, ⟨fun h => (by cases h), fun h => absurd h R.out⟩⟩, n, rfl⟩
      · have i1 : decide ((j : Int) < (xs.length : Int)) = false := decide_eq_false (by omega)
        have R : Hid (fewOk xs) := ⟨hl, fun i h => HALL.out i h (by omega)⟩
        clear HALL
        go_wp2
        go_ret
        exact ⟨⟨true, rfl, ⟨fun _ => R.out, fun _ => rfl⟩⟩, n, rfl⟩
  · have i1 : (40 : Int) < (xs.length : Int) := by omega
    have R : Hid (¬ fewOk xs) := fun h => hl h.1
    clear hA hl
    go_enter Tryz.func8, Tryz.ntmps8
    go_wp2
    go_ret
    exact ⟨⟨false, rfl, ⟨fun h => (by cases h), fun h => absurd h R.out⟩⟩, 0, rfl⟩
end Go.Proofs.YtnhojcldeloigaaGreat
