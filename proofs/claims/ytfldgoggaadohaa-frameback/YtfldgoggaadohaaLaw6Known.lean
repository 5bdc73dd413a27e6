/-
  The statements' first look: two frames in pieces, and a size that may not be.
-/
import Derived.Test.YtfldgoggaadohaaFrameE
import Derived.Test.YtfldgoggaadohaaLaw6Texts
namespace Go.Proofs.Ytfldgoggaadohaa
open Go.RowKit
set_option maxRecDepth 100000

section
variable {w w' : World} {E : Nat → Prop} {g B : Nat} {hv hv' v : Value} {xs : List (List UInt8)} {t : TypeId} {bs : List UInt8} {dead : Bool}
/-- A list that a stream told, behind the stream's next bytes. -/
theorem LsAt.fed (h : LsAt w (fun i => E i ∧ ¬ Foot g hv i) v xs) (k : Only (Foot g hv) w w') (hf : ∀ i, hv'.ownBlock = some i → hv.ownBlock = some i ∨ w.heap.size ≤ i) : LsAt w' (fun i => E i ∧ ¬ Foot g hv' i) v xs := by
  refine ((h.mono (F := fun i => (E i ∧ ¬ Foot g hv i) ∧ ¬ Foot g hv' i) (fun i hi hE => ⟨hE, ?_⟩)).only k (fun i _ hE => hE.1.2)).mono (fun i _ hE => ⟨hE.1.1, hE.2⟩)
  rintro (rfl | hn)
  · exact hE.2 (.inl rfl)
  · rcases hf i hn with hn | hn
    · exact hE.2 (.inr hn)
    · omega
theorem LsAt.told {H : Nat} (h : LsAt w' (fun i => H ≤ i ∧ hv'.ownBlock ≠ some i) v xs) (hg : g < H) : LsAt w' (fun i => H ≤ i ∧ ¬ Foot g hv' i) v xs :=
  h.mono fun i _ hi => ⟨hi.1, by
    rintro (rfl | hn)
    · omega
    · exact hi.2 hn⟩
end

/-- The bytes of the look. -/
def kA : List UInt8 := [7, 0, 0, 0, 97, 98, 99]
theorem kA_wrap : wrapR [97, 98, 99] = (kA, 0) := by decide
theorem kA_one : feedS 100 [] false (kA ++ [7, 0, 0, 0, 97]) = ([[97, 98, 99]], [7, 0, 0, 0, 97], false) := by
  have e : kA = wrapB [97, 98, 99] := by decide
  show cut 100 ([] ++ (kA ++ [7, 0, 0, 0, 97])) = _
  rw [List.nil_append, e, cut_wrap (by decide) (by decide) (by decide), cut_wait (by decide) (by decide) (by decide)]
theorem kA_two : feedS 100 [7, 0, 0, 0, 97] false [98, 99] = ([[97, 98, 99]], [], false) := by
  have e : ([7, 0, 0, 0, 97] : List UInt8) ++ [98, 99] = wrapB [97, 98, 99] ++ [] := by decide
  show cut 100 ([7, 0, 0, 0, 97] ++ [98, 99]) = _
  rw [e, cut_wrap (by decide) (by decide) (by decide), cut_nil]
theorem kA_three : feedS 100 [] false [6, 0, 0, 0] = ([], [], true) := by
  show cut 100 ([] ++ [6, 0, 0, 0]) = _
  rw [List.nil_append, cut_dead (by decide) (by decide)]

set_option maxHeartbeats 4000000 in
theorem known6 (w : World) : Calls Try.prog 7 #[] w fun e w' => e = .returned (.bool true) ∧ Below w.heap.size w w' := by
  obtain ⟨i0, hi0, hz0, hz1, hz2⟩ := info_parts Try.info8
  have C1 := Lib.hid (wrap_any _ [97, 98, 99] _ _ _ (lit_SlIs w 5 (3, 4) [97, 98, 99] 3 rfl (by simp [maxLen])) (by simp) (by simp))
  rw [kA_wrap] at C1
  have kc := fun (w : World) (C : Array Value) (n c : Nat) => Lib.run_convert_bytes_const (P := Try.prog) w 22 5 C n c Try.underlying22 Try.underlying5
  go_enter Try.func7, Try.ntmps7
  go_wp2_with fail
  refine C1.out.mono ?_
  rintro e w1 ⟨v1, rfl, o1, b1⟩
  simp only [World.size_alloc] at b1 o1
  have b1' : Below w.heap.size w w1 := ((Below.refl _ w).alloc (Nat.le_refl _) _).trans (b1.mono (by omega))
  have hs1 := b1'.size
  obtain ⟨A, c, rfl, hc1, hc2, hrd⟩ := owns_slice o1
  have hkl : kA.length = 7 := rfl
  have B1 := Lib.hid b1'
  have RD := Lib.hid hrd
  have hc3 := hc2
  have O1 := Lib.hid o1
  rw [hkl] at hc1
  simp only [maxLen] at hc2
  clear C1 b1 o1 b1' hrd
  rw [hkl]
  go_wp2_with fail
  refine (new_any w1).mono ?_
  rintro e w2 ⟨rfl, rfl⟩
  have k2 : Only (fun _ => False) w1 (w1.alloc (.cells #[.slice none 0 0, .bool false] 47)) := (Only.refl _ w1).alloc _
  have S2 := Lib.hid (StAt.new (t := 47) w1 w.heap.size hs1)
  have O2 := Lib.hid (owns_only O1.out k2 (fun _ _ h => h))
  have B2 := Lib.hid (B1.out.alloc hs1 (.cells #[.slice none 0 0, .bool false] 47))
  have RD2 := Lib.hid (RD.out.only k2 (Nat.le_refl _) (fun _ _ _ h => h))
  obtain ⟨w2, hw2⟩ : ∃ w2, w2 = w1.alloc (.cells #[.slice none 0 0, .bool false] 47) := ⟨_, rfl⟩
  have hs2 : w2.heap.size = w1.heap.size + 1 := by rw [hw2]; simp
  rw [← hw2] at S2 O2 B2 RD2
  obtain ⟨g, hg⟩ : ∃ g, g = w1.heap.size := ⟨_, rfl⟩
  rw [← hw2, ← hg]
  rw [← hg] at S2 hs2 RD2
  have hc5 : (5 : Int) ≤ (c : Int) := by omega
  have hlo : w.heap.size ≤ w2.heap.size := B2.out.size
  have hgl : g < w2.heap.size := by omega
  have SA : Hid (SlIs w2 0 g (.slice A 7 c) kA) := ⟨A, c, rfl, hc1, hc3, RD2.out.wide (Nat.zero_le _) (Nat.le_refl _)⟩
  have SB : Hid (SlIs w2 0 g (.slice A 5 c) [7, 0, 0, 0, 97]) := by
    obtain ⟨A', c', e, q1, q2, q3⟩ := SA.out
    injection e with e1 _ e2
    subst e1 e2
    exact ⟨A, c, rfl, by simp; omega, q2, q3.take 5⟩
  have SC : Hid (SlIs w2 0 g (.slice (Option.map (fun x => { block := x.block, off := x.off + 5 }) A) 2 (c - 5)) [98, 99]) := by
    obtain ⟨A', c', e, q1, q2, q3⟩ := SA.out
    injection e with e1 _ e2
    subst e1 e2
    have q4 := q3.drop (k := 5) (cap := c) (by decide) (by simp [kA]; omega)
    rw [if_neg (by omega)] at q4
    exact ⟨_, c - 5, rfl, by simp; omega, by omega, q4⟩
  have R0 : Hid (((w2.alloc (.cells #[] 5)).drew).ownsRow w.heap.size 5 1 (.slice (some ⟨w2.heap.size, 0, none⟩) 0 0) ([] : List UInt8).length (b8s [])) :=
    (World.ownsRow_made w2 #[] 0 hlo (by simp [maxLen]) (by simp)).drew
  have K0 : Hid (Only (fun _ => False) w2 ((w2.alloc (.cells #[] 5)).drew)) := ((Only.refl _ w2).alloc _).drew
  have SA0 := Lib.hid (SA.out.only K0.out (Nat.le_of_lt hgl) (fun _ _ _ h => h))
  clear k2 hw2 O1 B1 SA hs2 hg RD RD2
  go_wp2_with fail
  go_region_law (first
    | (refine step_append_bytes _ (by rfl) _ _ _ (by rfl) w.heap.size 5 i0 Try.underlying22 hi0 hz0 hz1 hz2 _ kA [7, 0, 0, 0, 97] (by rfl) R3.out _ _ _ (by rfl) SB3.out (by decide) (by omega) ?_; intro v4 w4 h1 h2 _; have K4 : Hid (Only (fun i => w2.heap.size ≤ i) w2 w4) := (K3.out.trans (Only.of_grown h2) (fun i _ hi => L3.out i hi.symm)); have R4 := Lib.hid h1; have hs4 := K4.out.size; clear h1 h2)
    | (refine step_append_bytes _ (by rfl) _ _ _ (by rfl) w.heap.size 5 i0 Try.underlying22 hi0 hz0 hz1 hz2 _ [] kA (by rfl) R0.out _ _ _ (by rfl) SA0.out (by decide) (by simp; omega) ?_; intro v3 w3 h1 h2 h3; have K3 : Hid (Only (fun i => w2.heap.size ≤ i) w2 w3) := ((K0.out.mono (T := fun i => w2.heap.size ≤ i) (fun _ _ h => h.elim)).trans (Only.of_grown h2) (fun i _ hi => by simp [Value.ownBlock] at hi; omega)); have L3 : Hid (∀ i, v3.ownBlock = some i → w2.heap.size ≤ i) := (fun i hi => by rcases h3 with h3 | h3 <;> (rw [h3] at hi; simp [Value.ownBlock] at hi; omega)); have R3 : Hid (w3.ownsRow w.heap.size 5 1 v3 kA.length (b8s kA)) := Lib.hid (by simpa using h1); have hs3 := K3.out.size; have SB3 := Lib.hid (SB.out.only K3.out (Nat.le_of_lt hgl) (fun i _ hi h => by omega)); clear h1 h2 h3)
    | (go_simp; go_at_call 10; refine (feed_any w.heap.size g (.slice none 0 0) v4 [] (kA ++ [7, 0, 0, 0, 97]) false 100 _ _ w4 (S2.out.only K4.out (fun i hi h => by rcases hi with hi | hi; omega; cases hi)) (owns_SlIs R4.out) (Nat.le_refl _) (by decide)).mono ?_; rintro e w5 ⟨x, hv5, rfl, l5, s5, k5, f5⟩; rw [kA_one] at l5 s5; have L5 := Lib.hid l5; have S5 := Lib.hid s5; have K5 := Lib.hid k5; have F5 := Lib.hid f5; clear l5 s5 k5 f5)
    | fail)
  have hn0 : ∀ i, Foot g (.slice none 0 0) i → i = g := fun i h => by
    rcases h with h | h
    · exact h
    · cases h
  have k25 : Only (fun i => i = g ∨ w2.heap.size ≤ i) w2 w5 := (K4.out.mono (T := fun i => i = g ∨ w2.heap.size ≤ i) (fun _ _ h => .inr h)).trans K5.out (fun i _ hi => .inl (hn0 i hi))
  have X5 := Lib.hid (SC.out.only k25 (Nat.le_of_lt hgl) (fun i _ hi h => by omega))
  have hgw : w.heap.size ≤ g := S2.out.low
  have B5 : Hid (Below w.heap.size w w5) := B2.out.trans (k25.below hlo (fun i hi h => by omega))
  have hs5 := k25.size
  have L5' := Lib.hid (L5.out.told (g := g) (by omega))
  obtain ⟨Ax, cx, rfl⟩ := L5.out.form
  rw [List.length_singleton] at L5' ⊢
  have hgl5 : g < w5.heap.size := by omega
  have C6 := Lib.hid (feed_any w.heap.size g hv5 _ [7, 0, 0, 0, 97] [98, 99] false 100 _ _ w5 S5.out X5.out (Nat.le_of_lt hgl5) (by decide))
  rw [kA_two] at C6
  have CH := Lib.hid (held_any _ _ _ _ _ w5 S5.out)
  have hn5 : ([7, 0, 0, 0, 97] : List UInt8).length = 5 := rfl
  rw [hn5] at CH
  clear hn0 k25 B2 S2 SB SC R0 K0 SA0 R4 K4 R3 K3 L3 SB3 K5 F5 L5 O2
  go_wp2_with fail
  refine CH.out.mono ?_
  rintro e w' ⟨rfl, rfl⟩
  clear CH
  go_wp2_with fail
  refine C6.out.mono ?_
  rintro e w6 ⟨y, hv6, rfl, l6, s6, k6, f6⟩
  obtain ⟨Ay, cy, rfl⟩ := l6.form
  rw [List.length_singleton]
  have L6 := Lib.hid (L5'.out.fed k6 f6)
  have hs6 := k6.size
  have B6 : Hid (Below w.heap.size w w6) := B5.out.trans (k6.below (by omega) (fun i hi h => by have := S5.out.foot_lt h; omega))
  have kW : Only (fun _ => False) w6 (w6.alloc (.cells #[.int .u8 6, .int .u8 0, .int .u8 0, .int .u8 0] 5)) := (Only.refl _ w6).alloc _
  have S7 := Lib.hid (s6.only kW (fun _ _ h => h))
  have L7 := Lib.hid (L6.out.only kW (fun _ _ _ h => h))
  have C7 := Lib.hid (feed_any w.heap.size g hv6 _ [] [6, 0, 0, 0] false 100 _ _ _ S7.out (lit_SlIs w6 5 (0, 0) [6, 0, 0, 0] 4 rfl (by simp [maxLen])) (by simp) (by decide))
  rw [kA_three] at C7
  clear l6 s6 k6 f6 kW C6 L6 L5' S5 B5
  go_wp2_with fail
  refine C7.out.mono ?_
  rintro e w8 ⟨z, hv8, rfl, l8, s8, k8, f8⟩
  obtain ⟨Az, cz, rfl⟩ := l8.form
  rw [List.length_nil]
  have L8 := L7.out.fed k8 f8
  have hs8 := k8.size
  simp only [World.size_alloc] at hs8
  have B8 : Hid (Below w.heap.size w w8) := (B6.out.alloc (by omega) _).trans (k8.below (by simp; omega) (fun i hi h => by have := S7.out.foot_lt h; omega))
  obtain ⟨gx, cx', Au, cu, e1, z1, sl1⟩ := L8.at (k := 0) (by decide)
  injection e1 with e1 en e2
  subst e1 e2
  clear en
  have z1' : w8.cell? ⟨gx, 0, none⟩ = some (.slice Au 3 cu) := z1
  have r1 : (convert 22 9 (.slice Au 3 cu)).run Try.prog w8 = .ok (.string (strOf [97, 98, 99])) w8 := run_str _ _ _ _ w8 sl1
  have t1 := strOf_list [97, 98, 99]
  have CD := Lib.hid (dead_any _ _ _ _ _ w8 s8)
  have CH := Lib.hid (held_any _ _ _ _ _ w8 s8)
  rw [List.length_nil] at CH
  clear l8 s8 k8 f8 L8 L7 S7 B6 C7 z1 sl1
  go_wp2_with (first | (go_at_call 13; refine CD.out.mono ?_; rintro e w' ⟨rfl, rfl⟩) | (go_at_call 14; refine CH.out.mono ?_; rintro e w' ⟨rfl, rfl⟩) | fail)
  go_ret
  exact ⟨rfl, B8.out⟩
end Go.Proofs.Ytfldgoggaadohaa
