/-
  Package entry: written.
-/
import Derived.Test.YtkhgaolaaiekjaaDoorEntL
import Derived.Test.YtkhgaolaaiekjaaDoorBytesOf
import Derived.Test.YtkhgaolaaiekjaaDoorCopyB
import Derived.Test.YtkhgaolaaiekjaaDoorNumH
namespace Go.Proofs.YtkhgaolaaiekjaaDoor
open Go.RowKit Go.Lib
set_option maxRecDepth 100000

/-- Between two rounds of written: the Out, behind w. -/
structure WO (w : World) (v : Value) (bs : List UInt8) (wr : World) : Prop where
  out : OutAt wr w.heap.size w.heap.size v bs
  still : Still w wr
/-- Within a round: the entry's box too. -/
structure WX (w : World) (b : Nat) (x : En) (v : Value) (bs : List UInt8) (wr : World) : Prop where
  out : OutAt wr w.heap.size w.heap.size v bs
  still : Still w wr
  box : Has wr b 38 #[.string (strOf x.n), .int .u32 (x.i : Int)]
  far : ¬ Foot w.heap.size v b
section
variable {w wr w' : World} {b : Nat} {x : En} {v : Value} {bs bs' : List UInt8}
theorem WO.round (h : WO w v bs wr) (x : En) : WX w wr.heap.size x v bs (wr.alloc (.cells #[.string (strOf x.n), .int .u32 (x.i : Int)] 38)) :=
  ⟨h.out.only ((Still.refl wr).alloc _) (fun _ _ h => h), h.still.alloc _, Has.new _ _ _, fun hf => by
    have := (h.out.foot_lt hf).2
    omega⟩
theorem WX.keep (h : WX w b x v bs wr) (k : Still wr w') : WX w b x v bs w' := ⟨h.out.only k (fun _ _ h => h), h.still.trans k, k.has h.box, h.far⟩
theorem WX.done (h : WX w b x v bs wr) : WO w v bs wr := ⟨h.out, h.still⟩
theorem WX.step (h : WX w b x v bs wr) {e : Ending} (k : OutStep wr w.heap.size w.heap.size v bs' e w') : ∃ v', e = .returned (.tuple #[]) ∧ WX w b x v' bs' w' := by
  obtain ⟨v', he, o, f, g⟩ := k
  refine ⟨v', he, o, Only.trans h.still f (fun i hi hf => ?_), h.box.only f h.far, fun hf => ?_⟩
  · have := h.out.foot_lt hf
    omega
  · rcases hf with hf | hf
    · exact h.far (.inl hf)
    · rcases g b hf with h1 | h1
      · exact h.far (.inr h1)
      · have := h.box.lt
        omega
theorem WX.put (h : WX w b x v bs wr) (hi : x.i < 4294967296) (hl : bs.length ≤ 1000000) : Calls Tryd.prog 34 #[.pointer (some ⟨w.heap.size, 0, none⟩), .int .i64 4, .int .u64 (x.i : Int)] wr fun e w' => ∃ v', e = .returned (.tuple #[]) ∧ WX w b x v' (bs ++ putB 4 x.i) w' :=
  (put_yes _ _ _ _ 4 x.i _ h.out (by omega) (by omega) (by omega) (by omega)).mono fun _ _ k => h.step k
theorem WX.raw (h : WX w b x v bs wr) {u : Value} {xs : List UInt8} {lo hi : Nat} (hu : SlIs wr lo hi u xs) (hl : bs.length ≤ 1000000) (hx : xs.length ≤ 1000000) : Calls Tryd.prog 35 #[.pointer (some ⟨w.heap.size, 0, none⟩), u] wr fun e w' => ∃ v', e = .returned (.tuple #[]) ∧ WX w b x v' (bs ++ xs) w' :=
  (outraw_any _ _ _ _ _ xs lo hi _ h.out hu (by rw [List.length_append]; omega)).mono fun _ _ k => h.step k
end

set_option maxHeartbeats 4000000 in
theorem written13_any (E : Nat → Prop) (v : Value) (l : List En) (w : World) (hl : l.length ≤ 1000) (hn : ∀ x ∈ l, x.n.length ≤ 28) (hu : U32s l) (h : EsIs w E v l) : Calls Tryd.prog 22 #[v] w (NewB w (encL l)) := by
  obtain ⟨A, c, rfl⟩ := h.form
  have HA : Hid (∀ wr, Still w wr → EsIs wr E (.slice A l.length c) l) := Lib.hid (fun wr k => EsIs.only h k (fun _ _ _ h => h))
  have HN := Lib.hid hn
  have HU := Lib.hid hu
  have W0 : Hid (WO w (.slice none 0 0) (encL (l.take 0)) (w.alloc (.cells #[.slice none 0 0] 61))) := Lib.hid ⟨new_out w, (Still.refl w).alloc _⟩
  clear h hn hu
  go_enter Tryd.func22, Tryd.ntmps22
  go_wp2
  go_loopw [8, 5] (fun i _ wr => ∃ (j : Nat) (V : Value), j ≤ l.length ∧ i = .int .i64 j ∧ Hid (WO w V (encL (l.take j)) wr)) (fun i _ _ => l.length - (intOf i).toNat)
  case atStart => exact ⟨0, _, Nat.zero_le _, rfl, W0⟩
  case round =>
    obtain ⟨j, V, hj, rfl, hrel⟩ := hrel
    clear W0
    by_cases hlt : j < l.length
    · obtain ⟨V0, hV0⟩ : ∃ V0, V0 = wr := ⟨_, rfl⟩
      subst hV0
      obtain ⟨ad, c', e, z0, z1⟩ := EsIs.at (HA.out _ hrel.out.still) hlt
      injection e with e1 _ e2
      subst e1 e2
      have hx28 := HN.out _ (List.getElem_mem hlt)
      have hxi := HU.out _ (List.getElem_mem hlt)
      have TK : Hid (encL (l.take (j + 1)) = encL (l.take j) ++ encE l[j]) := Lib.hid (encL_take l j hlt)
      have TL : (encL (l.take j)).length ≤ 100000 := by
        have h1 := encL_len (l := l.take j) (M := 28) (fun y hy => HN.out y (List.mem_of_mem_take hy))
        have h2 : (l.take j).length ≤ 1000 := by rw [List.length_take]; omega
        have h3 : (l.take j).length * (32 + 28) ≤ 1000 * 60 := Nat.mul_le_mul_right _ h2
        omega
      have i0 : (0 : Int) ≤ (j : Int) := by omega
      have i1 : (j : Int) < (l.length : Int) := by omega
      obtain ⟨x, hxe⟩ : ∃ x, x = l[j] := ⟨_, rfl⟩
      rw [← hxe] at z0 z1 hx28 hxi TK
      have hpl := putB_length 4 x.i
      have RX := Lib.hid (hrel.out.round x)
      have CP := Lib.hid (RX.out.put hxi (by omega))
      obtain ⟨bs, hbs⟩ : ∃ bs, bs = encL (l.take j) := ⟨_, rfl⟩
      rw [← hbs] at CP TK TL
      have b1 := (RX.out.box).cell 1
      have wi : IntKind.u64.wrap (x.i : Int) = (x.i : Int) := IntWalk.u64_in _ (by omega)
      have wz : IntKind.i64.wrap (28 - (x.n.length : Int)) = 28 - (x.n.length : Int) := IntWalk.i64_in _ (by omega)
      have sz : (strOf x.n).size = x.n.length := rfl
      clear hxe hbs hrel RX HN HU
      go_wp2_with fail
      refine CP.out.mono ?_
      rintro e w1 ⟨v1, rfl, h1⟩
      have c0 := h1.box.cell 0
      simp only [List.getElem?_toArray, List.getElem?_cons_zero] at c0
      obtain ⟨A2, c2, w2, hcv, hsl, hb⟩ := bytes_of x.n w1 (by simp only [maxLen]; omega)
      have h2 := h1.keep (Still.of_below hb)
      have CR := Lib.hid (h2.raw hsl (by rw [List.length_append]; omega) (by omega))
      clear h1 hsl hb CP z0 z1 h2
      go_wp2_with fail
      refine CR.out.mono ?_
      rintro e w3 ⟨v3, rfl, h3⟩
      have d0 := h3.box.cell 0
      simp only [List.getElem?_toArray, List.getElem?_cons_zero] at d0
      obtain ⟨w4, hmk, ho, hk4, _⟩ := make_bytes (28 - x.n.length) (by omega) w3
      have h4 := h3.keep hk4
      have hsl4 : SlIs w4 w3.heap.size w4.heap.size (.slice (some ⟨w3.heap.size, 0, none⟩) (28 - x.n.length) (28 - x.n.length)) (List.replicate (28 - x.n.length) 0) := by
        have := owns_SlIs (bs := List.replicate (28 - x.n.length) 0) (w := w4) (B := w3.heap.size) (v := .slice (some ⟨w3.heap.size, 0, none⟩) (28 - x.n.length) (28 - x.n.length)) (by rw [List.length_replicate]; exact ho)
        exact this
      have CZ := Lib.hid (h4.raw hsl4 (by rw [List.length_append, List.length_append]; omega) (by rw [List.length_replicate]; omega))
      rw [show ((28 - x.n.length : Nat) : Int) = 28 - (x.n.length : Int) by omega] at hmk
      clear h3 h4 hsl4 ho hk4 CR c0 hcv
      go_wp2_with fail
      refine CZ.out.mono ?_
      rintro e w5 ⟨v5, rfl, h5⟩
      have R : Hid (WO w v5 (encL (l.take (j + 1))) w5) := Lib.hid (by
        rw [TK.out]
        unfold encE
        have := h5.done
        rwa [List.append_assoc, List.append_assoc, ← List.append_assoc (putB 4 x.i)] at this)
      clear h5 CZ hmk d0 TK
      go_wp2
      go_roundw
      case rel => exact ⟨j + 1, v5, by omega, by go_num, R⟩
      case measure => simp [intOf]; omega
    · have R := hrel.out
      rw [List.take_of_length_le (by omega)] at R
      have TL : (encL l).length ≤ 100000 := by
        have h1 := encL_len (l := l) (M := 28) HN.out
        have h3 : l.length * (32 + 28) ≤ 1000 * 60 := Nat.mul_le_mul_right _ hl
        omega
      have CB := Lib.hid (bytes_any _ _ _ _ _ R.out (by omega))
      have KS := Lib.hid R.still
      have HS := Lib.hid R.still.size
      clear R hrel
      go_wp2_with fail
      refine CB.out.mono ?_
      rintro e w5 ⟨v5, rfl, o5, b5⟩
      have R : Hid (NewB w (encL l) (.returned v5) w5) := Lib.hid ⟨v5, rfl, owns_base o5 HS.out, KS.out.trans (Still.of_below b5)⟩
      obtain ⟨A5, c5, rfl, _⟩ := owns_slice o5
      clear o5 b5 CB
      go_wp2
      go_ret
      exact R.out
end Go.Proofs.YtkhgaolaaiekjaaDoor
