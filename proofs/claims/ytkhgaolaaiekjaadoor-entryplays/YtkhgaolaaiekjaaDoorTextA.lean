/-
  Package text: count, over whatever text: how many code points, or a panic.
-/
import Derived.Test.YtkhgaolaaiekjaaDoorUtf
import Derived.Test.YtkhgaolaaiekjaaDoorShelf
namespace Go.Proofs.YtkhgaolaaiekjaaDoor
open Go.RowKit Go.Lib
set_option maxRecDepth 100000

theorem strOf_size (l : List UInt8) : (strOf l).size = l.length := by simp [strOf, ByteArray.size]
theorem strOf_get (l : List UInt8) (i : Nat) : ((strOf l).get! i).toNat = byteAt l i := by
  simp [strOf, ByteArray.get!, byteAt, List.getD, Array.getElem!_eq_getD]
  rfl
theorem strOf_extract (l : List UInt8) (a b : Nat) : (strOf l).extract a b = strOf ((l.drop a).take (b - a)) := Go.ByteArray.extract_mk l a b
theorem strOf_tail (l : List UInt8) (a : Nat) : (strOf l).extract a l.length = strOf (l.drop a) := by
  rw [strOf_extract, List.take_of_length_le (by rw [List.length_drop]; omega)]
theorem decode_list (l : List UInt8) (i : Nat) : Utf8.decode (strOf l) i = dec (l.drop i) := by
  rw [decode_at, strOf_get, strOf_get, strOf_get, strOf_get, strOf_size]
  unfold dec
  rw [byteAt_drop, byteAt_drop, byteAt_drop, byteAt_drop, List.length_drop]
  rfl
theorem decodeGo_list {l : List UInt8} (h : l.length ≠ 0) : decodeGo (strOf l) = dec l := by
  rw [decodeGo, strOf_size, if_neg h, decode_list]
  rfl
theorem dec_wid {l : List UInt8} (h : l.length ≠ 0) : WidDec l.length (byteAt l 0) (byteAt l 1) (byteAt l 2) (byteAt l 3) (dec l) :=
  widN_dec _ _ _ _ _ (by omega) (byteAt_lt _ _) (byteAt_lt _ _) (byteAt_lt _ _) (byteAt_lt _ _)

/-- The two tables of the decoder, as they are laid. -/
def Tabs (w : World) : Prop := Utf8Tabs 1 2 w
theorem Tabs.below {w w' : World} (h : Tabs w) (hb : Below w.heap.size w w') : Tabs w' := by
  refine ⟨fun c hc => ?_, fun i hi => ⟨?_, ?_⟩⟩
  · exact (hb.cell (World.block_lt_of_cell? w _ (h.1 c hc))).trans (h.1 c hc)
  · exact (hb.cell (World.block_lt_of_cell? w _ (h.2 i hi).1)).trans (h.2 i hi).1
  · exact (hb.cell (World.block_lt_of_cell? w _ (h.2 i hi).2)).trans (h.2 i hi).2

/-- What count leaves. -/
def CountStep (w : World) (r : Option Nat) (e : Ending) (w' : World) : Prop :=
  Below w.heap.size w w' ∧ match r with
    | some n => e = .returned (.int .i64 n)
    | none => e = .panicked [{ v := .iface 26 (.int .i64 2), recovered := false }]

def textLen : Value → Nat
  | .string s => s.size
  | _ => 0
def CountInv (l : List UInt8) (w : World) (l' : List UInt8) (m : Nat) (wr : World) : Prop :=
  Below w.heap.size w wr ∧ runes l = (runes l').map (· + m) ∧ l'.length + m ≤ l.length

set_option maxHeartbeats 1000000 in
theorem count_any (l : List UInt8) (w : World) (hT : Tabs w) (hl : l.length ≤ 9223372036854775806) :
    Calls Tryd.prog 74 #[.string (strOf l)] w (CountStep w (runes l)) := by
  have H0 : Hid (CountInv l w l 0 w) := ⟨Below.refl _ _, by simp, by omega⟩
  have HT := Lib.hid hT
  clear hT
  go_enter Tryd.func74, Tryd.ntmps74
  go_wp2
  go_loopw [0, 3] (fun s n wr => ∃ (l' : List UInt8) (m : Nat), s = .string (strOf l') ∧ n = .int .i64 m ∧ Hid (CountInv l w l' m wr)) (fun s _ _ => textLen s)
  case atStart => exact ⟨l, 0, rfl, rfl, H0⟩
  case round =>
    obtain ⟨l', m, rfl, rfl, hrel⟩ := hrel
    clear H0
    obtain ⟨hb, hr, hm⟩ := hrel.out
    by_cases h0 : l'.length = 0
    · have hn : l' = [] := List.eq_nil_of_length_eq_zero h0
      subst hn
      have R : Hid (CountStep w (runes l) (.returned (.int .i64 m)) wr) := by
        refine ⟨hb, ?_⟩
        rw [hr, runes_nil]
        simp
      have hz : (strOf []).size = 0 := rfl
      clear hb hr hrel hm h0
      go_wp2
      go_ret
      exact R.out
    · have hz : (strOf l').size = l'.length := strOf_size l'
      have hp : (0 : Int) < (l'.length : Int) := by omega
      have C := Lib.hid (Tryd.utf8_DecodeRuneInString (strOf l') wr (HT.out.below hb))
      have hd := dec_wid h0
      have hstep := runes_step h0
      have hgo := decodeGo_list h0
      obtain ⟨R, hR⟩ : ∃ R, (dec l').1 = R := ⟨_, rfl⟩
      obtain ⟨K, hK⟩ : ∃ K, (dec l').2 = K := ⟨_, rfl⟩
      have hdec : dec l' = (R, K) := by rw [← hR, ← hK]
      have C : Hid (Calls Tryd.prog 78 #[.string (strOf l')] wr fun e w' => e = .returned (.tuple #[.int .i32 R, .int .i64 K]) ∧ Below wr.heap.size wr w') := by
        have := C.out
        rw [hgo, hdec] at this
        exact this
      rw [hdec] at hd
      have hwl := wid_le l'
      have hw4 := wid_le4 l'
      change (wid l' = 0 ∧ _) ∨ (0 < wid l' ∧ _ = wid l' ∧ (_ ∨ 1 < wid l') ∧ _) at hd
      have HB := Lib.hid hb
      have HR := Lib.hid hr
      clear hb hr hrel hgo hdec hR hK
      rcases hd with ⟨hw, he⟩ | ⟨hw, he, hv, _⟩
      · injection he with e1 e2
        subst e1 e2
        rw [if_pos hw] at hstep
        have HS := Lib.hid hstep
        clear hstep hw hwl
        go_wp2_with fail
        refine C.out.mono ?_
        rintro e w1 ⟨rfl, hb1⟩
        have R1 : Hid (CountStep w (runes l) (.panicked [{ v := .iface 26 (.int .i64 2), recovered := false }]) w1) := by
          refine ⟨HB.out.trans (hb1.mono HB.out.size), ?_⟩
          rw [HR.out, HS.out]
          simp
        clear hb1 C HB HR HS
        go_wp2_with fail
        refine (must_no 2 w1).mono ?_
        rintro e w' ⟨rfl, rfl⟩
        go_wp2
        exact ⟨rfl, R1.out⟩
      · simp only at he hv
        subst he
        rw [if_neg (by omega)] at hstep
        obtain ⟨K, hK⟩ : ∃ K, wid l' = K := ⟨_, rfl⟩
        rw [hK] at hstep C hw hv hwl hw4
        have HS := Lib.hid hstep
        have HV := Lib.hid hv
        have hx : (strOf l').extract K l'.length = strOf (l'.drop K) := strOf_tail l' K
        clear hstep hv hK
        have fin : ∀ w1 w', Below wr.heap.size wr w1 → w1 = w' → Hid (CountInv l w (l'.drop K) (m + 1) w') := by
          rintro w1 _ hb1 rfl
          refine ⟨HB.out.trans (hb1.mono HB.out.size), ?_, ?_⟩
          · rw [HR.out, HS.out, Option.map_map]
            congr 1
            funext x
            simp; omega
          · rw [List.length_drop]; omega
        have HF := Lib.hid fin
        clear fin
        have k1 : decide (K ≤ l'.length) = true := decide_eq_true hwl
        by_cases hq : R = 65533
        · subst hq
          have hk1 : (1 : Int) < (K : Int) := by
            have := HV.out
            omega
          go_wp2_with fail
          refine C.out.mono ?_
          rintro e w1 ⟨rfl, hb1⟩
          have R1 := HF.out _ _ hb1 rfl
          clear hb1 C HF HB HR HS HV
          go_wp2_with fail
          refine (must_yes 2 w1).mono ?_
          rintro e w' ⟨rfl, rfl⟩
          go_wp2
          go_roundw
          case rel => exact ⟨l'.drop K, m + 1, by rw [← hx], by go_num, R1⟩
          case measure => simp only [textLen, strOf_size, List.length_drop]; omega
        · have hq : ((R : Int) == 65533) = false := by simp; omega
          go_wp2_with fail
          refine C.out.mono ?_
          rintro e w1 ⟨rfl, hb1⟩
          have R1 := HF.out _ _ hb1 rfl
          clear hb1 C HF HB HR HS HV
          go_wp2_with fail
          refine (must_yes 2 w1).mono ?_
          rintro e w' ⟨rfl, rfl⟩
          go_wp2
          go_roundw
          case rel => exact ⟨l'.drop K, m + 1, by rw [← hx], by go_num, R1⟩
          case measure => simp only [textLen, strOf_size, List.length_drop]; omega
end Go.Proofs.YtkhgaolaaiekjaaDoor
