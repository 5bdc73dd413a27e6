/-
  Package text: count, over whatever text: how many code points, or a panic.
  Package text: Runes, wrong, Valid over whatever text.
  The second reading's rune1: the width of the first code point of whatever text.
  The second reading's Runes, Valid, Name over whatever text.
  Package text: Put and Take of whatever text, onto an Out and out of an In.
-/
import Derived.Test.YtepiifbleoimkaaGreatDoorPackNum
import Derived.Test.YtepiifbleoimkaaGreatDoorShelf
import Derived.Laws.BitsAllLaws
import Derived.Lib.AppendStr
namespace Go.Proofs.YtepiifbleoimkaaGreatDoor
open Go.RowKit Go.Lib
set_option maxRecDepth 100000

theorem strOf_size (l : List UInt8) : (strOf l).size = l.length := by simp [strOf, ByteArray.size]
theorem strOf_get (l : List UInt8) (i : Nat) : ((strOf l).get! i).toNat = byteAt l i := by
  simp [strOf, ByteArray.get!, byteAt, List.getD, Array.getElem!_eq_getD]
  rfl
theorem strOf_extract (l : List UInt8) (a b : Nat) : (strOf l).extract a b = strOf ((l.drop a).take (b - a)) := Go.ByteArray.extract_mk l a b
theorem strOf_tail (l : List UInt8) (a : Nat) : (strOf l).extract a l.length = strOf (l.drop a) := by
  rw [strOf_extract, List.take_of_length_le (by rw [List.length_drop]; omega)]
theorem decode_list (l : List UInt8) (i : Nat) : Utf8.decode (strOf l) i = dec (l.drop i) := by
  rw [decode_at, strOf_get, strOf_get, strOf_get, strOf_get, strOf_size]
  unfold dec
  rw [byteAt_drop, byteAt_drop, byteAt_drop, byteAt_drop, List.length_drop]
  rfl
theorem decodeGo_list {l : List UInt8} (h : l.length ≠ 0) : decodeGo (strOf l) = dec l := by
  rw [decodeGo, strOf_size, if_neg h, decode_list]
  rfl
theorem dec_wid {l : List UInt8} (h : l.length ≠ 0) : WidDec l.length (byteAt l 0) (byteAt l 1) (byteAt l 2) (byteAt l 3) (dec l) :=
  widN_dec _ _ _ _ _ (by omega) (byteAt_lt _ _) (byteAt_lt _ _) (byteAt_lt _ _) (byteAt_lt _ _)

/-- The two tables of the decoder, as they are laid. -/
def Tabs (w : World) : Prop := Utf8Tabs 1 2 w
theorem Tabs.below {w w' : World} (h : Tabs w) (hb : Below w.heap.size w w') : Tabs w' := by
  refine ⟨fun c hc => ?_, fun i hi => ⟨?_, ?_⟩⟩
  · exact (hb.cell (World.block_lt_of_cell? w _ (h.1 c hc))).trans (h.1 c hc)
  · exact (hb.cell (World.block_lt_of_cell? w _ (h.2 i hi).1)).trans (h.2 i hi).1
  · exact (hb.cell (World.block_lt_of_cell? w _ (h.2 i hi).2)).trans (h.2 i hi).2

/-- What count leaves. -/
def CountStep (w : World) (r : Option Nat) (e : Ending) (w' : World) : Prop :=
  Below w.heap.size w w' ∧ match r with
    | some n => e = .returned (.int .i64 n)
    | none => e = .panicked [{ v := .iface 35 (.int .i64 2), recovered := false }]

def textLen : Value → Nat
  | .string s => s.size
  | _ => 0
def CountInv (l : List UInt8) (w : World) (l' : List UInt8) (m : Nat) (wr : World) : Prop :=
  Below w.heap.size w wr ∧ runes l = (runes l').map (· + m) ∧ l'.length + m ≤ l.length

set_option maxHeartbeats 1000000 in
theorem count_any (l : List UInt8) (w : World) (hT : Tabs w) (hl : l.length ≤ 9223372036854775806) :
    Calls Tryz.prog 94 #[.string (strOf l)] w (CountStep w (runes l)) := by
  have H0 : Hid (CountInv l w l 0 w) := ⟨Below.refl _ _, by simp, by omega⟩
  have HT := Lib.hid hT
  clear hT
  go_enter Tryz.func94, Tryz.ntmps94
  go_wp2
  go_loopw [0, 3] (fun s n wr => ∃ (l' : List UInt8) (m : Nat), s = .string (strOf l') ∧ n = .int .i64 m ∧ Hid (CountInv l w l' m wr)) (fun s _ _ => textLen s)
  case atStart => exact ⟨l, 0, rfl, rfl, H0⟩
  case round =>
    obtain ⟨l', m, rfl, rfl, hrel⟩ := hrel
    clear H0
    obtain ⟨hb, hr, hm⟩ := hrel.out
    by_cases h0 : l'.length = 0
    · have hn : l' = [] := List.eq_nil_of_length_eq_zero h0
      subst hn
      have R : Hid (CountStep w (runes l) (.returned (.int .i64 m)) wr) := by
        refine ⟨hb, ?_⟩
        rw [hr, runes_nil]
        simp
      have hz : (strOf []).size = 0 := rfl
      clear hb hr hrel hm h0
      go_wp2
      go_ret
      exact R.out
    · have hz : (strOf l').size = l'.length := strOf_size l'
      have hp : (0 : Int) < (l'.length : Int) := by omega
      have C := Lib.hid (Tryz.utf8_DecodeRuneInString (strOf l') wr (HT.out.below hb))
      have hd := dec_wid h0
      have hstep := runes_step h0
      have hgo := decodeGo_list h0
      obtain ⟨R, hR⟩ : ∃ R, (dec l').1 = R := ⟨_, rfl⟩
      obtain ⟨K, hK⟩ : ∃ K, (dec l').2 = K := ⟨_, rfl⟩
      have hdec : dec l' = (R, K) := by rw [← hR, ← hK]
      have C : Hid (Calls Tryz.prog 98 #[.string (strOf l')] wr fun e w' => e = .returned (.tuple #[.int .i32 R, .int .i64 K]) ∧ Below wr.heap.size wr w') := by
        have := C.out
        rw [hgo, hdec] at this
        exact this
      rw [hdec] at hd
      have hwl := wid_le l'
      have hw4 := wid_le4 l'
      change (wid l' = 0 ∧ _) ∨ (0 < wid l' ∧ _ = wid l' ∧ (_ ∨ 1 < wid l') ∧ _) at hd
      have HB := Lib.hid hb
      have HR := Lib.hid hr
      clear hb hr hrel hgo hdec hR hK
      rcases hd with ⟨hw, he⟩ | ⟨hw, he, hv, _⟩
      · injection he with e1 e2
        subst e1 e2
        rw [if_pos hw] at hstep
        have HS := Lib.hid hstep
        clear hstep hw hwl
        go_wp2_with fail
        refine C.out.mono ?_
        rintro e w1 ⟨rfl, hb1⟩
        have R1 : Hid (CountStep w (runes l) (.panicked [{ v := .iface 35 (.int .i64 2), recovered := false }]) w1) := by
          refine ⟨HB.out.trans (hb1.mono HB.out.size), ?_⟩
          rw [HR.out, HS.out]
          simp
        clear hb1 C HB HR HS
        go_wp2_with fail
        refine (must_no 2 w1).mono ?_
        rintro e w' ⟨rfl, rfl⟩
        go_wp2
        exact ⟨rfl, R1.out⟩
      · simp only at he hv
        subst he
        rw [if_neg (by omega)] at hstep
        obtain ⟨K, hK⟩ : ∃ K, wid l' = K := ⟨_, rfl⟩
        rw [hK] at hstep C hw hv hwl hw4
        have HS := Lib.hid hstep
        have HV := Lib.hid hv
        have hx : (strOf l').extract K l'.length = strOf (l'.drop K) := strOf_tail l' K
        clear hstep hv hK
        have fin : ∀ w1 w', Below wr.heap.size wr w1 → w1 = w' → Hid (CountInv l w (l'.drop K) (m + 1) w') := by
          rintro w1 _ hb1 rfl
          refine ⟨HB.out.trans (hb1.mono HB.out.size), ?_, ?_⟩
          · rw [HR.out, HS.out, Option.map_map]
            congr 1
            funext x
            simp; omega
          · rw [List.length_drop]; omega
        have HF := Lib.hid fin
        clear fin
        have k1 : decide (K ≤ l'.length) = true := decide_eq_true hwl
        by_cases hq : R = 65533
        · subst hq
          have hk1 : (1 : Int) < (K : Int) := by
            have := HV.out
            omega
          go_wp2_with fail
          refine C.out.mono ?_
          rintro e w1 ⟨rfl, hb1⟩
          have R1 := HF.out _ _ hb1 rfl
          clear hb1 C HF HB HR HS HV
          go_wp2_with fail
          refine (must_yes 2 w1).mono ?_
          rintro e w' ⟨rfl, rfl⟩
          go_wp2
          go_roundw
          case rel => exact ⟨l'.drop K, m + 1, by rw [← hx], by go_num, R1⟩
          case measure => simp only [textLen, strOf_size, List.length_drop]; omega
        · have hq : ((R : Int) == 65533) = false := by simp; omega
          go_wp2_with fail
          refine C.out.mono ?_
          rintro e w1 ⟨rfl, hb1⟩
          have R1 := HF.out _ _ hb1 rfl
          clear hb1 C HF HB HR HS HV
          go_wp2_with fail
          refine (must_yes 2 w1).mono ?_
          rintro e w' ⟨rfl, rfl⟩
          go_wp2
          go_roundw
          case rel => exact ⟨l'.drop K, m + 1, by rw [← hx], by go_num, R1⟩
          case measure => simp only [textLen, strOf_size, List.length_drop]; omega
end Go.Proofs.YtepiifbleoimkaaGreatDoor
namespace Go.Proofs.YtepiifbleoimkaaGreatDoor
open Go.RowKit Go.Lib
set_option maxRecDepth 100000

theorem Tryz.enterWrong : ∀ args w, (callFunc 92 args).run Tryz.prog w = .ok (.enter 92 args) w := enters_of Tryz.func92 (by kernel_rfl) rfl
/-- What Runes answers. -/
def runesAns (r : Option Nat) : Value := .tuple #[.int .i64 (r.getD 0 : Nat), .bool r.isSome]

theorem has_set_far {w : World} {g : Nat} {t : TypeId} {cs : Array Value} {q : Nat} (h : Has w g t cs) (hq : g ≠ q) (u : Value) : Has (w.setCell ⟨q, 0, none⟩ u) g t cs := h.far hq u

/-- The error of what is no UTF-8. -/
def utfErr (r : Option Nat) : Int := if r = none then 2 else 0
/-- What keeps a text from a message. -/
def wrongOf (l : List UInt8) : Int := if 64 < l.length then 3 else if (0 : UInt8) ∈ l then 2 else utfErr (runes l)

theorem idx_mem (l : List UInt8) (c : UInt8) : 0 ≤ Lib.indexByte l c ↔ c ∈ l := by
  induction l with
  | nil => simp [Lib.indexByte]
  | cons d l ih =>
    have hg := Lib.indexByte_ge l c
    simp only [Lib.indexByte, List.mem_cons]
    by_cases h : d = c
    · subst h
      simp
    · have hb : (d == c) = false := by simpa using h
      rw [hb]
      simp only [Bool.false_eq_true, if_false]
      by_cases h1 : Lib.indexByte l c = -1
      · have hb1 : (Lib.indexByte l c == -1) = true := by simpa using h1
        rw [hb1]
        simp only [if_true]
        constructor
        · intro hh; omega
        · rintro (hh | hh)
          · exact absurd hh.symm h
          · have := ih.2 hh
            omega
      · have hb1 : (Lib.indexByte l c == -1) = false := by simpa using h1
        rw [hb1]
        simp only [Bool.false_eq_true, if_false]
        constructor
        · intro hh
          exact .inr (ih.1 (by omega))
        · rintro (hh | hh)
          · exact absurd hh.symm h
          · have := ih.2 hh
            omega

theorem contains_any (l : List UInt8) (w : World) : Calls Tryz.prog 93 #[.string (strOf l), .string ⟨#[0]⟩] w fun e w' => e = .returned (.bool (decide ((0 : UInt8) ∈ l))) ∧ w = w' := by
  refine (Tryz.strings_Contains_one (strOf l) 0 w).mono ?_
  rintro e w' ⟨rfl, rfl⟩
  refine ⟨?_, rfl⟩
  rw [strOf_toList]
  congr 2
  exact decide_eq_decide.2 (idx_mem l 0)

def Wrong1Step (w : World) (er : Int) (e : Ending) (w' : World) : Prop :=
  Below w.heap.size w w' ∧ if er = 0 then e = .returned (.tuple #[]) else e = .panicked [{ v := .iface 35 (.int .i64 er), recovered := false }]

set_option maxHeartbeats 400000 in
theorem wrong1_any (l : List UInt8) (sb : Nat) (w : World) (hT : Tabs w) (hl : l.length ≤ 9223372036854775806) (hs : Has w sb 9 #[.string (strOf l)]) :
    Calls Tryz.prog 92 #[.pointer (some ⟨sb, 0, none⟩)] w (Wrong1Step w (wrongOf l)) := by
  have c0 := hs.cell 0
  simp at c0
  have hz : (strOf l).size = l.length := strOf_size l
  have C := Lib.hid (count_any l w hT hl)
  have C0 := Lib.hid (contains_any l w)
  clear hs hT
  by_cases h1 : 64 < l.length
  · have R : Hid (Wrong1Step w (wrongOf l) (.panicked [{ v := .iface 35 (.int .i64 3), recovered := false }]) w) := by
      rw [wrongOf, if_pos h1]
      exact ⟨Below.refl _ _, by simp⟩
    have hd : decide ((l.length : Int) ≤ 64) = false := decide_eq_false (by omega)
    clear C C0 h1
    go_enter Tryz.func92, Tryz.ntmps92
    go_wp2_with fail
    refine (must_no 3 w).mono ?_
    rintro e w' ⟨rfl, rfl⟩
    go_wp2
    exact ⟨rfl, R.out⟩
  · have hd : decide ((l.length : Int) ≤ 64) = true := decide_eq_true (by omega)
    by_cases h2 : (0 : UInt8) ∈ l
    · have R : Hid (Wrong1Step w (wrongOf l) (.panicked [{ v := .iface 35 (.int .i64 2), recovered := false }]) w) := by
        rw [wrongOf, if_neg h1, if_pos h2]
        exact ⟨Below.refl _ _, by simp⟩
      have C0 : Hid (Calls Tryz.prog 93 #[.string (strOf l), .string ⟨#[0]⟩] w fun e w' => e = .returned (.bool true) ∧ w = w') := by
        have := C0.out
        rw [decide_eq_true h2] at this
        exact this
      clear C h1 h2
      go_enter Tryz.func92, Tryz.ntmps92
      go_wp2_with fail
      refine (must_yes 3 w).mono ?_
      rintro e w' ⟨rfl, rfl⟩
      go_wp2_with fail
      refine C0.out.mono ?_
      rintro e w' ⟨rfl, rfl⟩
      go_wp2_with fail
      refine (must_no 2 w).mono ?_
      rintro e w' ⟨rfl, rfl⟩
      go_wp2
      exact ⟨rfl, R.out⟩
    · have C0 : Hid (Calls Tryz.prog 93 #[.string (strOf l), .string ⟨#[0]⟩] w fun e w' => e = .returned (.bool false) ∧ w = w') := by
        have := C0.out
        rw [decide_eq_false h2] at this
        exact this
      have hw : wrongOf l = utfErr (runes l) := by rw [wrongOf, if_neg h1, if_neg h2]
      rw [hw]
      clear h1 h2 hw
      generalize runes l = r at C ⊢
      go_enter Tryz.func92, Tryz.ntmps92
      go_wp2_with fail
      refine (must_yes 3 w).mono ?_
      rintro e w' ⟨rfl, rfl⟩
      go_wp2_with fail
      refine C0.out.mono ?_
      rintro e w' ⟨rfl, rfl⟩
      go_wp2_with fail
      refine (must_yes 2 w).mono ?_
      rintro e w' ⟨rfl, rfl⟩
      go_wp2_with fail
      refine C.out.mono ?_
      rintro e w1 ⟨hb, he⟩
      cases r with
      | none =>
        simp only at he
        subst he
        have R : Hid (Wrong1Step w (utfErr none) (.panicked [{ v := .iface 35 (.int .i64 2), recovered := false }]) w1) := ⟨hb, by simp [utfErr]⟩
        clear hb C C0
        go_wp2
        exact ⟨rfl, R.out⟩
      | some n =>
        simp only at he
        subst he
        have R : Hid (Wrong1Step w (utfErr (some n)) (.returned (.tuple #[])) w1) := ⟨hb, by simp [utfErr]⟩
        clear hb C C0
        go_wp2
        go_end0
        exact R.out

set_option maxHeartbeats 400000 in
theorem wrong_any (l : List UInt8) (w : World) (hT : Tabs w) (hl : l.length ≤ 9223372036854775806) :
    Calls Tryz.prog 83 #[.string (strOf l)] w fun e w' => e = .returned (.int .i64 (wrongOf l)) ∧ Below w.heap.size w w' := by
  obtain ⟨W, hW⟩ : ∃ W, W = w.alloc (.cells #[.string (strOf l)] 9) := ⟨_, rfl⟩
  have hs : Has W w.heap.size 9 #[.string (strOf l)] := by rw [hW]; exact Has.new _ _ _
  have hsz : W.heap.size = w.heap.size + 1 := by rw [hW]; simp
  have hB : Below w.heap.size w W := by rw [hW]; exact (Below.refl _ _).alloc (Nat.le_refl _) _
  have hB1 : Below W.heap.size W (W.alloc errBox) := (Below.refl _ _).alloc (Nat.le_refl _) _
  have C1 := wrong1_any l w.heap.size (W.alloc errBox) ((hT.below hB).below hB1) hl (hs.alloc _)
  have hnew : Has (W.alloc errBox) W.heap.size 35 #[.int .i64 0] := Has.new _ _ _
  have hmf : ∀ (fn : Fn) (first cap : Array Value) (w : World), (Instr.makeFunc fn first cap).run Tryz.prog w = .ok (.func fn first cap) w := fun _ _ _ _ => rfl
  have hsz2 : (W.alloc errBox).heap.size = W.heap.size + 1 := by simp
  generalize wrongOf l = er at C1 ⊢
  by_cases he : er = 0
  · have C := Lib.hid (caught_ok 92 _ Tryz.enterWrong W (fun w' => Below w.heap.size w w') (C1.mono fun e w' h => by
      obtain ⟨h1, h2⟩ := h
      rw [if_pos he] at h2
      refine ⟨h2, hnew.only (Only.of_below h1) (by omega), ?_⟩
      exact hB.trans ((hB1.mono (by omega)).trans (h1.mono (by omega)))))
    rw [hW] at C
    clear hs hB hB1 C1 hnew hT hW
    subst he
    go_enter Tryz.func83, Tryz.ntmps83
    go_wp2_with fail
    refine C.out.mono ?_
    rintro e w1 ⟨rfl, h2⟩
    have R : Hid (Below w.heap.size w w1) := h2
    clear h2 C
    go_wp2
    go_ret
    exact ⟨rfl, R.out⟩
  · have C := Lib.hid (caught_panic 92 _ Tryz.enterWrong W er (fun w' => Below w.heap.size w w') (C1.mono fun e w' h => by
      obtain ⟨h1, h2⟩ := h
      rw [if_neg he] at h2
      refine ⟨h2, hnew.only (Only.of_below h1) (by omega), ?_⟩
      exact hB.trans ((hB1.mono (by omega)).trans (h1.mono (by omega)))))
    rw [hW] at C
    clear hs hB hB1 C1 hnew hT
    go_enter Tryz.func83, Tryz.ntmps83
    go_wp2_with fail
    refine C.out.mono ?_
    rintro e w1 ⟨rfl, w2, h0, h2, hw⟩
    have R : Hid (Below w.heap.size w w1) := by
      rw [hw]
      exact h2.setCell (by simp) _
    clear h0 h2 hw C hW
    go_wp2
    go_ret
    exact ⟨rfl, R.out⟩

end Go.Proofs.YtepiifbleoimkaaGreatDoor
namespace Go.Proofs.YtepiifbleoimkaaGreatDoor
open Go.RowKit Go.Lib
set_option maxRecDepth 100000

/-- A text's bytes, as the walk reads them. -/
theorem strOf_at (l : List UInt8) : ∀ (n : Nat) (h : n < (strOf l).size), ((((strOf l)[n]'h).toNat : Nat) : Int) = (byteAt l n : Int) := by
  intro n h
  have h' : n < l.length := by rwa [strOf_size] at h
  rw [byteAt_get h']
  rfl
theorem and192 (x : Nat) (h : x < 256) : bits .and .u8 (x : Int) 192 = ((x / 64 * 64 : Nat) : Int) := by
  have e : ∀ y, y < 256 → y &&& 192 = y / 64 * 64 := by decide
  have := u8_and_nat x 192 h (by omega)
  rw [e x h] at this
  exact this
theorem and63 (x : Nat) (h : x < 256) : bits .and .u8 (x : Int) 63 = ((x % 64 : Nat) : Int) := by
  have := u8_and_nat x 63 h (by omega)
  rw [show (63 : Nat) = 2 ^ 6 - 1 from rfl, Nat.and_two_pow_sub_one_eq_mod] at this
  exact this
theorem or64 (v y : Nat) (hv : v < 1099511627776) : bits .or .i64 (wrap64 ((v : Int) * 64)) ((y : Int) % 64) = ((v * 64 + y % 64 : Nat) : Int) := by
  obtain ⟨x, hx⟩ : ∃ x, x = y % 64 := ⟨_, rfl⟩
  have e1 : wrap64 ((v : Int) * 64) = ((v * 64 : Nat) : Int) := by unfold wrap64; omega
  have e2 : (y : Int) % 64 = (x : Int) := by omega
  have hj : v * 64 ||| x = v * 64 + x := nat_join 6 _ _ (by omega) (by omega)
  rw [e1, e2, ← hx]
  show IntKind.i64.wrap ((BitVec.ofInt 64 ((v * 64 : Nat) : Int) ||| BitVec.ofInt 64 (x : Int)).toNat : Int) = _
  rw [BitVec.toNat_or, BitVec.ofInt_natCast, BitVec.ofInt_natCast, BitVec.toNat_ofNat, BitVec.toNat_ofNat, Nat.mod_eq_of_lt (by omega), Nat.mod_eq_of_lt (by omega), hj]
  exact IntWalk.i64_in _ (by omega)
/-- The bits of a code point, from its lead byte's on. -/
def accV (v0 : Nat) (l : List UInt8) : Nat → Nat
  | 0 => v0
  | k + 1 => accV v0 l k * 64 + byteAt l (k + 1) % 64
theorem accV_lt (v0 : Nat) (l : List UInt8) (k : Nat) (h : v0 < 32) (hk : k < 4) : accV v0 l k < 1099511627776 := by
  have : ∀ j, accV v0 l j < 32 * 64 ^ j := by
    intro j
    induction j with
    | zero => simp [accV]; omega
    | succ j ih => simp only [accV, Nat.pow_succ]; omega
  have h1 := this k
  have h2 : 64 ^ k ≤ 64 ^ 3 := Nat.pow_le_pow_right (by omega) (by omega)
  omega

theorem wid_end2 (l : List UInt8) (c b1 : Nat) (hc : byteAt l 0 = c) (e1 : byteAt l 1 = b1) (h1 : 192 ≤ c) (h2 : c < 224) (hl : 2 ≤ l.length) (k1 : b1 / 64 = 2) :
    wid l = if c % 32 * 64 + b1 % 64 < 128 then 0 else 2 := by
  unfold wid
  rw [hc, e1]
  by_cases h : c < 194
  · rw [widN0 (by omega), if_pos (by omega)]
  · rw [widN2 (by omega), if_pos (by omega), if_neg (by omega)]
theorem wid_end3 (l : List UInt8) (c b1 b2 : Nat) (hc : byteAt l 0 = c) (e1 : byteAt l 1 = b1) (e2 : byteAt l 2 = b2) (h1 : 224 ≤ c) (h2 : c < 240) (hl : 3 ≤ l.length) (k1 : b1 / 64 = 2) (k2 : b2 / 64 = 2) :
    wid l = if (c % 16 * 64 + b1 % 64) * 64 + b2 % 64 < 2048 ∨ (55296 ≤ (c % 16 * 64 + b1 % 64) * 64 + b2 % 64 ∧ (c % 16 * 64 + b1 % 64) * 64 + b2 % 64 ≤ 57343) then 0 else 3 := by
  unfold wid
  rw [hc, e1, e2, widN3 (by omega)]
  split <;> split <;> omega
theorem wid_end4 (l : List UInt8) (c b1 b2 b3 : Nat) (hc : byteAt l 0 = c) (e1 : byteAt l 1 = b1) (e2 : byteAt l 2 = b2) (e3 : byteAt l 3 = b3) (h1 : 240 ≤ c) (h2 : c < 248) (hl : 4 ≤ l.length) (k1 : b1 / 64 = 2) (k2 : b2 / 64 = 2) (k3 : b3 / 64 = 2) :
    wid l = if ((c % 8 * 64 + b1 % 64) * 64 + b2 % 64) * 64 + b3 % 64 < 65536 ∨ 1114111 < ((c % 8 * 64 + b1 % 64) * 64 + b2 % 64) * 64 + b3 % 64 then 0 else 4 := by
  unfold wid
  rw [hc, e1, e2, e3]
  by_cases h : c < 245
  · rw [widN4 (by omega)]
    split <;> split <;> omega
  · rw [widN0 (by omega), if_pos (by omega)]
theorem wid_class (l : List UInt8) (n c : Nat) (hc : byteAt l 0 = c) (hn : (n = 2 ∧ 192 ≤ c ∧ c < 224) ∨ (n = 3 ∧ 224 ≤ c ∧ c < 240) ∨ (n = 4 ∧ 240 ≤ c ∧ c < 248)) (h0 : ¬ wid l = 0) : n = wid l := by
  have h4 := wid_le4 l
  have hw : wid l = 1 ∨ wid l = 2 ∨ wid l = 3 ∨ wid l = 4 := by omega
  rcases hw with e | e | e | e
  · have k := widN_is1.1 (show widN _ _ _ _ _ = 1 from e)
    omega
  · have k := widN_is2.1 (show widN _ _ _ _ _ = 2 from e)
    omega
  · have k := widN_is3.1 (show widN _ _ _ _ _ = 3 from e)
    omega
  · have k := widN_is4.1 (show widN _ _ _ _ _ = 4 from e)
    omega
/-- A lead byte of n bytes with too few behind it, or with one that goes on nothing. -/
theorem wid_bad (l : List UInt8) (n c : Nat) (hc : byteAt l 0 = c) (hn : (n = 2 ∧ 192 ≤ c ∧ c < 224) ∨ (n = 3 ∧ 224 ≤ c ∧ c < 240) ∨ (n = 4 ∧ 240 ≤ c ∧ c < 248))
    (h : l.length < n ∨ ∃ j, 1 ≤ j ∧ j < n ∧ byteAt l j / 64 ≠ 2) : wid l = 0 := by
  refine Decidable.byContradiction fun h0 => ?_
  have hl := wid_le l
  have hk := wid_class l n c hc hn h0
  rcases h with h | ⟨j, j1, j2, j3⟩
  · omega
  · have := wid_tail (l := l) (c := j) (by omega) (by omega)
    omega

set_option maxHeartbeats 1000000 in
theorem rune1_2 (l : List UInt8) (w : World) (c : Nat) (hc : byteAt l 0 = c) (h0 : 0 < l.length) (h1 : 192 ≤ c) (h2 : c < 224) :
    Calls Tryz.prog 96 #[.string (strOf l)] w fun e w' => e = .returned (.int .i64 (wid l : Nat)) ∧ w = w' := by
  have hz : (strOf l).size = l.length := strOf_size l
  have i0 : (0 : Int) < (l.length : Int) := by omega
  have hb := strOf_at l
  have d1 : decide ((c : Int) < 128) = false := decide_eq_false (by omega)
  have d2 : decide ((192 : Int) ≤ c) = true := decide_eq_true (by omega)
  have d3 : decide ((c : Int) < 224) = true := decide_eq_true (by omega)
  have hbad := wid_bad l 2 c hc (by omega)
  by_cases hl : l.length < 2
  · have hl' : (l.length : Int) < 2 := by omega
    have hw := hbad (.inl hl)
    rw [hw]
    clear hbad
    go_enter Tryz.func96, Tryz.ntmps96
    go_wp2
    go_ret
    exact ⟨rfl, rfl⟩
  · have hl' : (2 : Int) ≤ (l.length : Int) := by omega
    have HB : Hid (∀ j, 1 ≤ j → j < 2 → byteAt l j / 64 ≠ 2 → wid l = 0) := fun j h1 h2 h3 => hbad (.inr ⟨j, h1, h2, h3⟩)
    have HE : Hid ((∀ j, 1 ≤ j → j < 2 → byteAt l j / 64 = 2) → ∀ V, accV (c % 32) l (2 - 1) = V → wid l = if V < 128 ∨ 1114111 < V ∨ (55296 ≤ V ∧ V ≤ 57343) then 0 else 2) := by
      rintro hj V rfl
      rw [wid_end2 l c _ hc rfl h1 h2 (by omega) (hj 1 (by omega) (by omega))]
      simp only [accV, Nat.reduceAdd]
      split <;> split <;> omega
    have hm : wrap64 ((c : Int) % 32) = (c : Int) % 32 := by unfold wrap64; omega
    obtain ⟨r, hr⟩ : ∃ r, wid l = r := ⟨_, rfl⟩
    rw [hr] at HB HE ⊢
    clear hbad hl hr
    go_enter Tryz.func96, Tryz.ntmps96
    go_wp2
    go_loopw [5, 7] (fun v i wr => ∃ k : Nat, k < 2 ∧ v = .int .i64 (accV (c % 32) l k) ∧ i = .int .i64 ((k : Int) + 1) ∧ Hid (w = wr ∧ ∀ j, 1 ≤ j → j ≤ k → byteAt l j / 64 = 2)) (fun _ i _ => 2 - (intOf i).toNat)
    case atStart => exact ⟨0, by omega, by simp [accV], by simp, ⟨rfl, fun j h1 h2 => by omega⟩⟩
    case round =>
      obtain ⟨k, hk, rfl, rfl, hrel⟩ := hrel
      obtain ⟨rfl, hj⟩ := hrel.out
      have HJ := Lib.hid hj
      have hV := accV_lt (c % 32) l k (by omega) (by omega)
      by_cases hk1 : k + 1 < 2
      · have hs : accV (c % 32) l (k + 1) = accV (c % 32) l k * 64 + byteAt l (k + 1) % 64 := rfl
        obtain ⟨X, hX⟩ : ∃ X, byteAt l (k + 1) = X := ⟨_, rfl⟩
        have hX1 : X < 256 := by rw [← hX]; exact byteAt_lt _ _
        rw [hX] at hs
        have i1 : (k : Int) + 1 < (l.length : Int) := by omega
        have i2 : (0 : Int) ≤ (k : Int) + 1 := by omega
        have i3 : (k : Int) + 1 < 2 := by omega
        have tn : ((k : Int) + 1).toNat = k + 1 := by omega
        obtain ⟨V, hVe⟩ : ∃ V, accV (c % 32) l k = V := ⟨_, rfl⟩
        rw [hVe] at hV hs ⊢
        have a1 := and63 X hX1
        have a2 := or64 V X hV
        have a3 := and192 X hX1
        by_cases hq : X / 64 = 2
        · rw [hq] at a3
          have HF : Hid (∀ j, 1 ≤ j → j ≤ k + 1 → byteAt l j / 64 = 2) := fun j j1 j2 => by
            by_cases h : j ≤ k
            · exact HJ.out j j1 h
            · rw [show j = k + 1 by omega, hX]; exact hq
          obtain ⟨V', hV'⟩ : ∃ V', V' = V * 64 + X % 64 := ⟨_, rfl⟩
          rw [← hV'] at a2 hs
          clear hV' hrel hj HJ HB HE hVe hV hq
          go_wp2
          go_roundw
          case rel => exact ⟨k + 1, hk1, by rw [hs], by go_num, ⟨by first | rfl | trivial, HF.out⟩⟩
          case measure => simp [intOf]; omega
        · have hne : (((X / 64 * 64 : Nat) : Int) == 128) = false := by simp; omega
          have hr0 := HB.out (k + 1) (by omega) hk1 (by rw [hX]; exact hq)
          subst hr0
          obtain ⟨Y, hY⟩ : ∃ Y : Int, ((X / 64 * 64 : Nat) : Int) = Y := ⟨_, rfl⟩
          rw [hY] at a3 hne
          clear hrel hj HJ HB HE hVe hV hq hY hs a1 a2
          go_wp2
          go_ret
          exact ⟨rfl, rfl⟩
      · have hke : k + 1 = 2 := by omega
        obtain ⟨V, hVe⟩ : ∃ V, accV (c % 32) l k = V := ⟨_, rfl⟩
        have he := HE.out (fun j j1 j2 => HJ.out j j1 (by omega)) V (by rw [← hVe]; congr 1; omega)
        rw [hVe]
        have i3 : (k : Int) + 1 = 2 := by omega
        obtain ⟨I, hI⟩ : ∃ I : Int, I = (k : Int) + 1 := ⟨_, rfl⟩
        rw [← hI] at i3 ⊢
        subst i3
        have H := Lib.hid he
        clear hrel hj HJ HB HE hVe hV he hI hk hke hk1
        go_wp2
        all_goals
          go_ret
          refine ⟨?_, rfl⟩
          rw [H.out]
          first
          | (rw [if_pos (by omega)]; rfl)
          | (rw [if_neg (by omega)]; rfl)

set_option maxHeartbeats 1000000 in
theorem rune1_3 (l : List UInt8) (w : World) (c : Nat) (hc : byteAt l 0 = c) (h0 : 0 < l.length) (h1 : 224 ≤ c) (h2 : c < 240) :
    Calls Tryz.prog 96 #[.string (strOf l)] w fun e w' => e = .returned (.int .i64 (wid l : Nat)) ∧ w = w' := by
  have hz : (strOf l).size = l.length := strOf_size l
  have i0 : (0 : Int) < (l.length : Int) := by omega
  have hb := strOf_at l
  have d1 : decide ((c : Int) < 128) = false := decide_eq_false (by omega)
  have d2 : decide ((192 : Int) ≤ c) = true := decide_eq_true (by omega)
  have d3 : decide ((c : Int) < 224) = false := decide_eq_false (by omega)
  have d4 : decide ((224 : Int) ≤ c) = true := decide_eq_true (by omega)
  have d5 : decide ((c : Int) < 240) = true := decide_eq_true (by omega)
  have hbad := wid_bad l 3 c hc (by omega)
  by_cases hl : l.length < 3
  · have hl' : (l.length : Int) < 3 := by omega
    have hw := hbad (.inl hl)
    rw [hw]
    clear hbad
    go_enter Tryz.func96, Tryz.ntmps96
    go_wp2
    go_ret
    exact ⟨rfl, rfl⟩
  · have hl' : (3 : Int) ≤ (l.length : Int) := by omega
    have HB : Hid (∀ j, 1 ≤ j → j < 3 → byteAt l j / 64 ≠ 2 → wid l = 0) := fun j h1 h2 h3 => hbad (.inr ⟨j, h1, h2, h3⟩)
    have HE : Hid ((∀ j, 1 ≤ j → j < 3 → byteAt l j / 64 = 2) → ∀ V, accV (c % 16) l (3 - 1) = V → wid l = if V < 2048 ∨ 1114111 < V ∨ (55296 ≤ V ∧ V ≤ 57343) then 0 else 3) := by
      rintro hj V rfl
      rw [wid_end3 l c _ _ hc rfl rfl h1 h2 (by omega) (hj 1 (by omega) (by omega)) (hj 2 (by omega) (by omega))]
      simp only [accV, Nat.reduceAdd]
      split <;> split <;> omega
    have hm : wrap64 ((c : Int) % 16) = (c : Int) % 16 := by unfold wrap64; omega
    obtain ⟨r, hr⟩ : ∃ r, wid l = r := ⟨_, rfl⟩
    rw [hr] at HB HE ⊢
    clear hbad hl hr
    go_enter Tryz.func96, Tryz.ntmps96
    go_wp2
    go_loopw [5, 7] (fun v i wr => ∃ k : Nat, k < 3 ∧ v = .int .i64 (accV (c % 16) l k) ∧ i = .int .i64 ((k : Int) + 1) ∧ Hid (w = wr ∧ ∀ j, 1 ≤ j → j ≤ k → byteAt l j / 64 = 2)) (fun _ i _ => 3 - (intOf i).toNat)
    case atStart => exact ⟨0, by omega, by simp [accV], by simp, ⟨rfl, fun j h1 h2 => by omega⟩⟩
    case round =>
      obtain ⟨k, hk, rfl, rfl, hrel⟩ := hrel
      obtain ⟨rfl, hj⟩ := hrel.out
      have HJ := Lib.hid hj
      have hV := accV_lt (c % 16) l k (by omega) (by omega)
      by_cases hk1 : k + 1 < 3
      · have hs : accV (c % 16) l (k + 1) = accV (c % 16) l k * 64 + byteAt l (k + 1) % 64 := rfl
        obtain ⟨X, hX⟩ : ∃ X, byteAt l (k + 1) = X := ⟨_, rfl⟩
        have hX1 : X < 256 := by rw [← hX]; exact byteAt_lt _ _
        rw [hX] at hs
        have i1 : (k : Int) + 1 < (l.length : Int) := by omega
        have i2 : (0 : Int) ≤ (k : Int) + 1 := by omega
        have i3 : (k : Int) + 1 < 3 := by omega
        have tn : ((k : Int) + 1).toNat = k + 1 := by omega
        obtain ⟨V, hVe⟩ : ∃ V, accV (c % 16) l k = V := ⟨_, rfl⟩
        rw [hVe] at hV hs ⊢
        have a1 := and63 X hX1
        have a2 := or64 V X hV
        have a3 := and192 X hX1
        by_cases hq : X / 64 = 2
        · rw [hq] at a3
          have HF : Hid (∀ j, 1 ≤ j → j ≤ k + 1 → byteAt l j / 64 = 2) := fun j j1 j2 => by
            by_cases h : j ≤ k
            · exact HJ.out j j1 h
            · rw [show j = k + 1 by omega, hX]; exact hq
          obtain ⟨V', hV'⟩ : ∃ V', V' = V * 64 + X % 64 := ⟨_, rfl⟩
          rw [← hV'] at a2 hs
          clear hV' hrel hj HJ HB HE hVe hV hq
          go_wp2
          go_roundw
          case rel => exact ⟨k + 1, hk1, by rw [hs], by go_num, ⟨by first | rfl | trivial, HF.out⟩⟩
          case measure => simp [intOf]; omega
        · have hne : (((X / 64 * 64 : Nat) : Int) == 128) = false := by simp; omega
          have hr0 := HB.out (k + 1) (by omega) hk1 (by rw [hX]; exact hq)
          subst hr0
          obtain ⟨Y, hY⟩ : ∃ Y : Int, ((X / 64 * 64 : Nat) : Int) = Y := ⟨_, rfl⟩
          rw [hY] at a3 hne
          clear hrel hj HJ HB HE hVe hV hq hY hs a1 a2
          go_wp2
          go_ret
          exact ⟨rfl, rfl⟩
      · have hke : k + 1 = 3 := by omega
        obtain ⟨V, hVe⟩ : ∃ V, accV (c % 16) l k = V := ⟨_, rfl⟩
        have he := HE.out (fun j j1 j2 => HJ.out j j1 (by omega)) V (by rw [← hVe]; congr 1; omega)
        rw [hVe]
        have i3 : (k : Int) + 1 = 3 := by omega
        obtain ⟨I, hI⟩ : ∃ I : Int, I = (k : Int) + 1 := ⟨_, rfl⟩
        rw [← hI] at i3 ⊢
        subst i3
        have H := Lib.hid he
        clear hrel hj HJ HB HE hVe hV he hI hk hke hk1
        go_wp2
        all_goals
          go_ret
          refine ⟨?_, rfl⟩
          rw [H.out]
          first
          | (rw [if_pos (by omega)]; rfl)
          | (rw [if_neg (by omega)]; rfl)

set_option maxHeartbeats 1000000 in
theorem rune1_4 (l : List UInt8) (w : World) (c : Nat) (hc : byteAt l 0 = c) (h0 : 0 < l.length) (h1 : 240 ≤ c) (h2 : c < 248) :
    Calls Tryz.prog 96 #[.string (strOf l)] w fun e w' => e = .returned (.int .i64 (wid l : Nat)) ∧ w = w' := by
  have hz : (strOf l).size = l.length := strOf_size l
  have i0 : (0 : Int) < (l.length : Int) := by omega
  have hb := strOf_at l
  have d1 : decide ((c : Int) < 128) = false := decide_eq_false (by omega)
  have d2 : decide ((192 : Int) ≤ c) = true := decide_eq_true (by omega)
  have d3 : decide ((c : Int) < 224) = false := decide_eq_false (by omega)
  have d4 : decide ((224 : Int) ≤ c) = true := decide_eq_true (by omega)
  have d5 : decide ((c : Int) < 240) = false := decide_eq_false (by omega)
  have d6 : decide ((240 : Int) ≤ c) = true := decide_eq_true (by omega)
  have d7 : decide ((c : Int) < 248) = true := decide_eq_true (by omega)
  have hbad := wid_bad l 4 c hc (by omega)
  by_cases hl : l.length < 4
  · have hl' : (l.length : Int) < 4 := by omega
    have hw := hbad (.inl hl)
    rw [hw]
    clear hbad
    go_enter Tryz.func96, Tryz.ntmps96
    go_wp2
    go_ret
    exact ⟨rfl, rfl⟩
  · have hl' : (4 : Int) ≤ (l.length : Int) := by omega
    have HB : Hid (∀ j, 1 ≤ j → j < 4 → byteAt l j / 64 ≠ 2 → wid l = 0) := fun j h1 h2 h3 => hbad (.inr ⟨j, h1, h2, h3⟩)
    have HE : Hid ((∀ j, 1 ≤ j → j < 4 → byteAt l j / 64 = 2) → ∀ V, accV (c % 8) l (4 - 1) = V → wid l = if V < 65536 ∨ 1114111 < V ∨ (55296 ≤ V ∧ V ≤ 57343) then 0 else 4) := by
      rintro hj V rfl
      rw [wid_end4 l c _ _ _ hc rfl rfl rfl h1 h2 (by omega) (hj 1 (by omega) (by omega)) (hj 2 (by omega) (by omega)) (hj 3 (by omega) (by omega))]
      simp only [accV, Nat.reduceAdd]
      split <;> split <;> omega
    have hm : wrap64 ((c : Int) % 8) = (c : Int) % 8 := by unfold wrap64; omega
    obtain ⟨r, hr⟩ : ∃ r, wid l = r := ⟨_, rfl⟩
    rw [hr] at HB HE ⊢
    clear hbad hl hr
    go_enter Tryz.func96, Tryz.ntmps96
    go_wp2
    go_loopw [5, 7] (fun v i wr => ∃ k : Nat, k < 4 ∧ v = .int .i64 (accV (c % 8) l k) ∧ i = .int .i64 ((k : Int) + 1) ∧ Hid (w = wr ∧ ∀ j, 1 ≤ j → j ≤ k → byteAt l j / 64 = 2)) (fun _ i _ => 4 - (intOf i).toNat)
    case atStart => exact ⟨0, by omega, by simp [accV], by simp, ⟨rfl, fun j h1 h2 => by omega⟩⟩
    case round =>
      obtain ⟨k, hk, rfl, rfl, hrel⟩ := hrel
      obtain ⟨rfl, hj⟩ := hrel.out
      have HJ := Lib.hid hj
      have hV := accV_lt (c % 8) l k (by omega) (by omega)
      by_cases hk1 : k + 1 < 4
      · have hs : accV (c % 8) l (k + 1) = accV (c % 8) l k * 64 + byteAt l (k + 1) % 64 := rfl
        obtain ⟨X, hX⟩ : ∃ X, byteAt l (k + 1) = X := ⟨_, rfl⟩
        have hX1 : X < 256 := by rw [← hX]; exact byteAt_lt _ _
        rw [hX] at hs
        have i1 : (k : Int) + 1 < (l.length : Int) := by omega
        have i2 : (0 : Int) ≤ (k : Int) + 1 := by omega
        have i3 : (k : Int) + 1 < 4 := by omega
        have tn : ((k : Int) + 1).toNat = k + 1 := by omega
        obtain ⟨V, hVe⟩ : ∃ V, accV (c % 8) l k = V := ⟨_, rfl⟩
        rw [hVe] at hV hs ⊢
        have a1 := and63 X hX1
        have a2 := or64 V X hV
        have a3 := and192 X hX1
        by_cases hq : X / 64 = 2
        · rw [hq] at a3
          have HF : Hid (∀ j, 1 ≤ j → j ≤ k + 1 → byteAt l j / 64 = 2) := fun j j1 j2 => by
            by_cases h : j ≤ k
            · exact HJ.out j j1 h
            · rw [show j = k + 1 by omega, hX]; exact hq
          obtain ⟨V', hV'⟩ : ∃ V', V' = V * 64 + X % 64 := ⟨_, rfl⟩
          rw [← hV'] at a2 hs
          clear hV' hrel hj HJ HB HE hVe hV hq
          go_wp2
          go_roundw
          case rel => exact ⟨k + 1, hk1, by rw [hs], by go_num, ⟨by first | rfl | trivial, HF.out⟩⟩
          case measure => simp [intOf]; omega
        · have hne : (((X / 64 * 64 : Nat) : Int) == 128) = false := by simp; omega
          have hr0 := HB.out (k + 1) (by omega) hk1 (by rw [hX]; exact hq)
          subst hr0
          obtain ⟨Y, hY⟩ : ∃ Y : Int, ((X / 64 * 64 : Nat) : Int) = Y := ⟨_, rfl⟩
          rw [hY] at a3 hne
          clear hrel hj HJ HB HE hVe hV hq hY hs a1 a2
          go_wp2
          go_ret
          exact ⟨rfl, rfl⟩
      · have hke : k + 1 = 4 := by omega
        obtain ⟨V, hVe⟩ : ∃ V, accV (c % 8) l k = V := ⟨_, rfl⟩
        have he := HE.out (fun j j1 j2 => HJ.out j j1 (by omega)) V (by rw [← hVe]; congr 1; omega)
        rw [hVe]
        have i3 : (k : Int) + 1 = 4 := by omega
        obtain ⟨I, hI⟩ : ∃ I : Int, I = (k : Int) + 1 := ⟨_, rfl⟩
        rw [← hI] at i3 ⊢
        subst i3
        have H := Lib.hid he
        clear hrel hj HJ HB HE hVe hV he hI hk hke hk1
        go_wp2
        all_goals
          go_ret
          refine ⟨?_, rfl⟩
          rw [H.out]
          first
          | (rw [if_pos (by omega)]; rfl)
          | (rw [if_neg (by omega)]; rfl)

set_option maxHeartbeats 1000000 in
theorem rune1_any (l : List UInt8) (w : World) : Calls Tryz.prog 96 #[.string (strOf l)] w fun e w' => e = .returned (.int .i64 (wid l : Nat)) ∧ w = w' := by
  have hz : (strOf l).size = l.length := strOf_size l
  have hb := strOf_at l
  by_cases h0 : l.length = 0
  · have hw : wid l = 0 := by have := wid_le l; omega
    rw [hw]
    have hz : (strOf l).size = 0 := by rw [hz, h0]
    clear h0 hb
    go_enter Tryz.func96, Tryz.ntmps96
    go_wp2
    go_ret
    exact ⟨rfl, rfl⟩
  have i0 : (0 : Int) < (l.length : Int) := by omega
  obtain ⟨c, hc⟩ : ∃ c, byteAt l 0 = c := ⟨_, rfl⟩
  have hc1 : c < 256 := by rw [← hc]; exact byteAt_lt _ _
  by_cases h1 : c < 128
  · have hw : wid l = 1 := widN_is1.2 ⟨by omega, by rw [hc]; exact h1⟩
    rw [hw]
    have d1 : decide ((c : Int) < 128) = true := decide_eq_true (by omega)
    clear hw
    go_enter Tryz.func96, Tryz.ntmps96
    go_wp2
    go_ret
    exact ⟨rfl, rfl⟩
  have d1 : decide ((c : Int) < 128) = false := decide_eq_false (by omega)
  by_cases h2 : c < 192
  · have hw : wid l = 0 := widN0 (by omega)
    rw [hw]
    have d2 : decide ((192 : Int) ≤ c) = false := decide_eq_false (by omega)
    have d3 : decide ((224 : Int) ≤ c) = false := decide_eq_false (by omega)
    have d4 : decide ((240 : Int) ≤ c) = false := decide_eq_false (by omega)
    clear hw
    go_enter Tryz.func96, Tryz.ntmps96
    go_wp2
    go_ret
    exact ⟨rfl, rfl⟩
  by_cases h3 : c < 224
  · exact rune1_2 l w c hc (by omega) (by omega) h3
  by_cases h4 : c < 240
  · exact rune1_3 l w c hc (by omega) (by omega) h4
  by_cases h5 : c < 248
  · exact rune1_4 l w c hc (by omega) (by omega) h5
  · have hw : wid l = 0 := widN0 (by omega)
    rw [hw]
    have d2 : decide ((192 : Int) ≤ c) = true := decide_eq_true (by omega)
    have d3 : decide ((c : Int) < 224) = false := decide_eq_false (by omega)
    have d4 : decide ((224 : Int) ≤ c) = true := decide_eq_true (by omega)
    have d5 : decide ((c : Int) < 240) = false := decide_eq_false (by omega)
    have d6 : decide ((240 : Int) ≤ c) = true := decide_eq_true (by omega)
    have d7 : decide ((c : Int) < 248) = false := decide_eq_false (by omega)
    clear hw
    go_enter Tryz.func96, Tryz.ntmps96
    go_wp2
    go_ret
    exact ⟨rfl, rfl⟩
end Go.Proofs.YtepiifbleoimkaaGreatDoor
namespace Go.Proofs.YtepiifbleoimkaaGreatDoor
open Go.RowKit Go.Lib
set_option maxRecDepth 100000

theorem runesAns_none : runesAns none = .tuple #[.int .i64 0, .bool false] := rfl
theorem runesAns_some (n : Nat) : runesAns (some n) = .tuple #[.int .i64 (n : Int), .bool true] := rfl

set_option maxHeartbeats 1000000 in
theorem refrunes_any (l : List UInt8) (w : World) (hl : l.length ≤ 9223372036854775806) :
    Calls Tryz.prog 91 #[.string (strOf l)] w fun e w' => e = .returned (runesAns (runes l)) ∧ w = w' := by
  have H0 : Hid (runes l = (runes l).map (· + 0) ∧ l.length + 0 ≤ l.length) := ⟨by simp, by omega⟩
  obtain ⟨r, hr⟩ : ∃ r, r = runes l := ⟨_, rfl⟩
  rw [← hr]
  have Hr := Lib.hid hr
  clear hr
  go_enter Tryz.func91, Tryz.ntmps91
  go_wp2
  go_loopw [0, 4] (fun s n wr => ∃ (l' : List UInt8) (m : Nat), s = .string (strOf l') ∧ n = .int .i64 m ∧ w = wr ∧ Hid (runes l = (runes l').map (· + m) ∧ l'.length + m ≤ l.length)) (fun s _ _ => textLen s)
  case atStart => exact ⟨l, 0, rfl, rfl, rfl, H0⟩
  case round =>
    obtain ⟨l', m, rfl, rfl, rfl, hrel⟩ := hrel
    clear H0
    obtain ⟨h1, h2⟩ := hrel.out
    rw [← Hr.out] at h1
    by_cases h0 : l'.length = 0
    · have hn : l' = [] := List.eq_nil_of_length_eq_zero h0
      subst hn
      have hz : (strOf []).size = 0 := rfl
      have he : r = some m := by rw [h1, runes_nil]; simp
      clear h1 h2 hrel h0 Hr
      subst he
      go_wp2
      go_ret2
      exact ⟨rfl, rfl⟩
    · have hz : (strOf l').size = l'.length := strOf_size l'
      have hp : (0 : Int) < (l'.length : Int) := by omega
      have hstep := runes_step h0
      have hwl := wid_le l'
      have C := Lib.hid (rune1_any l' w)
      obtain ⟨K, hK⟩ : ∃ K, wid l' = K := ⟨_, rfl⟩
      rw [hK] at hstep hwl C
      by_cases hw : K = 0
      · rw [if_pos hw] at hstep
        have he : r = none := by rw [h1, hstep]; rfl
        clear h1 h2 hrel h0 Hr hstep hK hwl
        subst he hw
        go_wp2_with fail
        refine C.out.mono ?_
        rintro e w' ⟨rfl, rfl⟩
        go_wp2
        go_ret2
        exact ⟨rfl, rfl⟩
      · rw [if_neg hw] at hstep
        have hx : (strOf l').extract K l'.length = strOf (l'.drop K) := strOf_tail l' K
        have k1 : decide (K ≤ l'.length) = true := decide_eq_true hwl
        have k2 : ((K : Int) == 0) = false := by simpa using hw
        have R : Hid (runes l = (runes (l'.drop K)).map (· + (m + 1)) ∧ (l'.drop K).length + (m + 1) ≤ l.length) := by
          refine ⟨?_, by rw [List.length_drop]; omega⟩
          rw [← Hr.out, h1, hstep, Option.map_map]
          congr 1
          funext x
          simp; omega
        have hK0 : 0 < K := by omega
        clear h1 hrel Hr hstep hK hw
        go_wp2_with fail
        refine C.out.mono ?_
        rintro e w' ⟨rfl, rfl⟩
        go_wp2
        go_roundw
        case rel => exact ⟨l'.drop K, m + 1, by rw [← hx], by go_num, by first | rfl | trivial, R⟩
        case measure => simp only [textLen, strOf_size, List.length_drop]; omega

theorem mem_byteAt {l : List UInt8} {k : Nat} (h : k < l.length) {c : UInt8} (hc : byteAt l k = c.toNat) : c ∈ l := by
  rw [byteAt_get h] at hc
  have : l[k] = c := UInt8.toNat_inj.1 hc
  rw [← this]
  exact List.getElem_mem h
theorem byteAt_mem {l : List UInt8} {c : UInt8} (h : c ∈ l) : ∃ k, k < l.length ∧ byteAt l k = c.toNat := by
  obtain ⟨k, hk, rfl⟩ := List.getElem_of_mem h
  exact ⟨k, hk, byteAt_get hk⟩

set_option maxHeartbeats 1000000 in
theorem refvalid_any (l : List UInt8) (w : World) (hl : l.length ≤ 9223372036854775806) :
    Calls Tryz.prog 82 #[.string (strOf l)] w fun e w' => e = .returned (.bool (decide (wrongOf l = 0))) ∧ w = w' := by
  have hz : (strOf l).size = l.length := strOf_size l
  have hb := strOf_at l
  have C := Lib.hid (refrunes_any l w hl)
  have Hw0 : Hid (∀ k, k < l.length → byteAt l k = 0 → decide (wrongOf l = 0) = false) := fun k hk hc => by
    have hm : (0 : UInt8) ∈ l := mem_byteAt hk hc
    refine decide_eq_false ?_
    rw [wrongOf]
    split
    · decide
    · first | decide | (rw [if_pos hm]; decide)
  have Hw1 : Hid ((∀ j, j < l.length → byteAt l j ≠ 0) → decide (wrongOf l = 0) = ((runes l).isSome && decide (l.length ≤ 64))) := fun h => by
    have hm : ¬ (0 : UInt8) ∈ l := fun hm => by
      obtain ⟨k, hk, hc⟩ := byteAt_mem hm
      exact h k hk hc
    rw [wrongOf, if_neg hm]
    by_cases h64 : 64 < l.length
    · rw [if_pos h64, decide_eq_false (by decide), decide_eq_false (p := l.length ≤ 64) (by omega), Bool.and_false]
    · rw [if_neg h64, decide_eq_true (p := l.length ≤ 64) (by omega), Bool.and_true]
      cases runes l <;> simp [utfErr]
  obtain ⟨V, hV⟩ : ∃ V, V = decide (wrongOf l = 0) := ⟨_, rfl⟩
  rw [← hV] at Hw0 Hw1 ⊢
  clear hV
  go_enter Tryz.func82, Tryz.ntmps82
  go_wp2
  go_loopw [3] (fun i wr => ∃ k : Nat, k ≤ l.length ∧ i = .int .i64 k ∧ w = wr ∧ Hid (∀ j, j < k → byteAt l j ≠ 0)) (fun i _ => l.length - (intOf i).toNat)
  case atStart => exact ⟨0, Nat.zero_le _, rfl, rfl, fun j hj => by omega⟩
  case round =>
    obtain ⟨k, hk, rfl, rfl, hrel⟩ := hrel
    have i0 : (0 : Int) ≤ (k : Int) := by omega
    by_cases hlt : k < l.length
    · have i1 : (k : Int) < (l.length : Int) := by omega
      obtain ⟨X, hX⟩ : ∃ X, byteAt l k = X := ⟨_, rfl⟩
      by_cases hx : X = 0
      · have hv := Hw0.out k hlt (by rw [hX, hx])
        subst hx hv
        clear C Hw0 Hw1 hrel
        go_wp2
        go_ret
        exact ⟨rfl, rfl⟩
      · have hne : ((X : Int) == 0) = false := by simpa using hx
        have R : Hid (∀ j, j < k + 1 → byteAt l j ≠ 0) := fun j hj => by
          by_cases h : j < k
          · exact hrel.out j h
          · rw [show j = k by omega, hX]; exact hx
        clear C Hw0 Hw1 hrel hx
        go_wp2
        go_roundw
        case rel => exact ⟨k + 1, by omega, by go_num, by first | rfl | trivial, R⟩
        case measure => simp [intOf]; omega
    · have hke : k = l.length := by omega
      subst hke
      have hv := Hw1.out hrel.out
      have Hv := Lib.hid hv
      clear Hw0 Hw1 hrel hv hb
      generalize runes l = r at C Hv
      go_wp2_with fail
      refine C.out.mono ?_
      rintro e w' ⟨rfl, rfl⟩
      have hv := Hv.out
      clear C Hv
      cases r with
      | none =>
        simp only [Option.isSome_none, Bool.false_and] at hv
        rw [runesAns_none]
        subst hv
        go_wp2
        go_ret
        exact ⟨rfl, rfl⟩
      | some n =>
        simp only [Option.isSome_some, Bool.true_and] at hv
        rw [runesAns_some]
        by_cases h64 : l.length ≤ 64
        · rw [decide_eq_true h64] at hv
          subst hv
          have d : decide ((l.length : Int) ≤ 64) = true := decide_eq_true (by omega)
          go_wp2
          go_ret
          exact ⟨rfl, rfl⟩
        · rw [decide_eq_false h64] at hv
          subst hv
          have d : decide ((l.length : Int) ≤ 64) = false := decide_eq_false (by omega)
          go_wp2
          go_ret
          exact ⟨rfl, rfl⟩

/-- A byte that no name has. -/
def outB (c : UInt8) : Bool := decide (c.toNat < 32) || decide (c.toNat = 47)
/-- What keeps a text from being a name. -/
def nameOf (l : List UInt8) : Int := if wrongOf l ≠ 0 ∨ l = [] ∨ l = [46] ∨ l = [46, 46] ∨ l.any outB = true then 6 else if 28 < l.length then 3 else 0
theorem nameOf_first {l : List UInt8} (h : wrongOf l ≠ 0 ∨ l = [] ∨ l = [46] ∨ l = [46, 46] ∨ l.any outB = true) : nameOf l = 6 := by rw [nameOf, if_pos h]
theorem nameOf_last {l : List UInt8} (h : ¬ (wrongOf l ≠ 0 ∨ l = [] ∨ l = [46] ∨ l = [46, 46] ∨ l.any outB = true)) : nameOf l = if 28 < l.length then 3 else 0 := by rw [nameOf, if_neg h]
theorem outB_at {l : List UInt8} {k : Nat} (h : k < l.length) : outB l[k] = (decide (byteAt l k < 32) || decide (byteAt l k = 47)) := by
  rw [outB, byteAt_get h]
theorem any_at {l : List UInt8} {k : Nat} (h : k < l.length) (ho : byteAt l k < 32 ∨ byteAt l k = 47) : l.any outB = true := by
  rw [List.any_eq_true]
  refine ⟨l[k], List.getElem_mem h, ?_⟩
  rw [outB_at h]
  rcases ho with ho | ho <;> simp [ho]
theorem any_none {l : List UInt8} (h : ∀ k, k < l.length → 32 ≤ byteAt l k ∧ byteAt l k ≠ 47) : ¬ l.any outB = true := by
  rw [List.any_eq_true]
  rintro ⟨c, hc, ho⟩
  obtain ⟨k, hk, e⟩ := byteAt_mem hc
  have := h k hk
  rw [outB, ← e] at ho
  simp at ho
  omega

end Go.Proofs.YtepiifbleoimkaaGreatDoor
namespace Go.Proofs.YtepiifbleoimkaaGreatDoor
open Go.RowKit Go.Lib
set_option maxRecDepth 100000

/-- The bytes of a text, as a new row. -/
theorem bytes_of (l : List UInt8) (w : World) (hl : l.length ≤ maxLen) :
    ∃ A c w', (convert 9 22 (.string (strOf l))).run Tryz.prog w = .ok (.slice A l.length c) w' ∧ SlIs w' w.heap.size w'.heap.size (.slice A l.length c) l ∧ Below w.heap.size w w' := by
  have hr := run_bytes_of_string (P := Tryz.prog) w 9 22 5 (strOf l) Tryz.underlying9 Tryz.underlying22 Tryz.underlying5
  have hz : (strOf l).size = l.length := strOf_size l
  rw [hz] at hr
  have hge := grownCap_ge w l.length 0 5
  have hcm := grownCap_le_maxLen w l.length 0 5 hl
  generalize grownCap w l.length 0 5 = cap at hr hge hcm
  refine ⟨_, _, _, hr, ⟨_, _, rfl, hge, hcm, fun _ => ⟨_, rfl, Nat.le_refl _, ?_, ?_⟩⟩, ?_⟩
  · show w.heap.size < (w.drew.alloc _).heap.size
    rw [World.size_alloc]
    exact Nat.lt_succ_self _
  · intro j u hu
    have hj : j < l.length := by
      have := (List.getElem?_eq_some_iff.1 hu).1
      rwa [b8s_length] at this
    rw [b8s_get hj] at hu
    injection hu with hu
    subst hu
    have hb := bytesRow_at (strOf l) cap j (by show j < l.toArray.size; simpa using hj)
    have hc := World.cell?_alloc_mark w.drew (bytesRow (strOf l) cap) 5 ((bytesRow (strOf l) cap).size, (bytesRow (strOf l) cap).size + 1) j
    have e : ((⟨w.heap.size, 0, none⟩ : Addr).add j) = ⟨w.heap.size, j, none⟩ := by by_cases hj0 : j = 0 <;> simp [Addr.add, hj0]
    rw [e]
    refine hc.trans (hb.trans ?_)
    simp [strOf, b8]
  · exact (Below.refl w.heap.size w).drew.alloc (Nat.le_refl _) _

/-- What Put adds. -/
def textB (l : List UInt8) : List UInt8 := if wrongOf l = 0 then putI 2 (l.length : Int) ++ l else []
/-- What Put leaves. -/
def TPut (w : World) (B g : Nat) (v : Value) (bs l : List UInt8) (e : Ending) (w' : World) : Prop :=
  ∃ v', e = .returned (.int .i64 (wrongOf l)) ∧ OutAt w' B g v' (bs ++ textB l) ∧ Only (Foot g v) w w' ∧ ∀ i, v'.ownBlock = some i → v.ownBlock = some i ∨ w.heap.size ≤ i
theorem wrongOf_short {l : List UInt8} (h : wrongOf l = 0) : l.length ≤ 64 := by
  rw [wrongOf] at h
  split at h
  · cases h
  · omega

set_option maxHeartbeats 1000000 in
theorem tput_any (B g : Nat) (v : Value) (bs l : List UInt8) (w : World) (h : OutAt w B g v bs) (hT : Tabs w) (hl : l.length ≤ 9223372036854775806) (hbs : bs.length ≤ 140737488355200) :
    Calls Tryz.prog 76 #[.pointer (some ⟨g, 0, none⟩), .string (strOf l)] w (TPut w B g v bs l) := by
  have hz : (strOf l).size = l.length := strOf_size l
  have C := Lib.hid (wrong_any l w hT hl)
  have HO := Lib.hid h
  clear h hT
  by_cases hw : wrongOf l = 0
  · have h64 := wrongOf_short hw
    rw [hw] at C
    go_enter Tryz.func76, Tryz.ntmps76
    go_wp2_with fail
    refine C.out.mono ?_
    rintro e w1 ⟨rfl, hb1⟩
    have k1 : Only (Foot g v) w w1 := (Only.of_below hb1).mono fun i hi h => absurd hi (by omega)
    have o1 : OutAt w1 B g v bs := HO.out.only (Only.of_below hb1) (fun i hi h => by have := (HO.out.foot_lt hi).2; omega)
    have C1 := Lib.hid (put_any B g v bs 2 (l.length : Int) w1 o1 (by omega) (by omega) (by omega))
    have hs1 := hb1.size
    have K1 := Lib.hid k1
    have hwu : IntKind.u64.wrap (l.length : Int) = (l.length : Int) := IntWalk.u64_in _ (by omega)
    clear hb1 k1 o1 C
    go_wp2_with fail
    refine C1.out.mono ?_
    rintro e w2 ⟨v2, rfl, o2, k2, f2⟩
    obtain ⟨A, c, w3, hcv, hsl, hb3⟩ := bytes_of l w2 (by simp only [maxLen]; omega)
    have o3 : OutAt w3 B g v2 (bs ++ putI 2 (l.length : Int)) := o2.only (Only.of_below hb3) (fun i hi h => by have := (o2.foot_lt hi).2; omega)
    have hpl := putI_length 2 (l.length : Int)
    have C2 := Lib.hid (outraw_any B g v2 _ _ l _ _ w3 o3 hsl (by rw [List.length_append, List.length_append]; omega))
    have fin : Hid (∀ e w4, OutStep w3 B g v2 (bs ++ putI 2 (l.length : Int) ++ l) e w4 → TPut w B g v bs l (.returned (.int .i64 0)) w4) := by
      rintro e w4 ⟨v4, _, o4, k4, f4⟩
      have hs2 := k2.size
      have hs3 := hb3.size
      refine ⟨v4, by rw [hw], ?_, ?_, ?_⟩
      · rw [textB, if_pos hw, ← List.append_assoc]
        exact o4
      · refine ((K1.out.trans k2 (fun i _ h => h)).trans (Only.of_below hb3) (fun i hi h => absurd hi (by omega))).trans k4 (fun i hi h => ?_)
        rcases h with h | h
        · exact .inl h
        · rcases f2 i h with h | h
          · exact .inr h
          · omega
      · intro i hi
        rcases f4 i hi with h | h
        · rcases f2 i h with h | h
          · exact .inl h
          · exact .inr (by omega)
        · exact .inr (by omega)
    clear o2 k2 f2 hsl hb3 o3 hpl C1 K1
    go_wp2_with fail
    refine C2.out.mono ?_
    rintro e w4 ho
    have R := fin.out _ _ ho
    obtain ⟨v4, rfl, _⟩ := ho
    have R := Lib.hid R
    clear fin C2 HO
    go_wp2
    go_ret
    exact R.out
  · have hne : (wrongOf l == 0) = false := by simpa using hw
    have hne2 : (wrongOf l != 0) = true := by simpa using hw
    go_enter Tryz.func76, Tryz.ntmps76
    go_wp2_with fail
    refine C.out.mono ?_
    rintro e w1 ⟨rfl, hb1⟩
    have R : Hid (TPut w B g v bs l (.returned (.int .i64 (wrongOf l))) w1) := by
      refine ⟨v, rfl, ?_, (Only.of_below hb1).mono fun i hi h => absurd hi (by omega), fun i hi => .inl hi⟩
      rw [textB, if_neg hw, List.append_nil]
      exact HO.out.only (Only.of_below hb1) (fun i hi h => by have := (HO.out.foot_lt hi).2; omega)
    clear hb1 C HO hw
    generalize wrongOf l = er at hne hne2 R
    go_wp2
    go_ret
    exact R.out

theorem Tabs.only {S : Nat → Prop} {a b : World} (h : Tabs a) (k : Only S a b) (h1 : ¬ S 1) (h2 : ¬ S 2) : Tabs b := by
  refine ⟨fun c hc => ?_, fun i hi => ⟨?_, ?_⟩⟩
  · exact (k.cell (World.block_lt_of_cell? a _ (h.1 c hc)) h1).trans (h.1 c hc)
  · exact (k.cell (World.block_lt_of_cell? a _ (h.2 i hi).1) h2).trans (h.2 i hi).1
  · exact (k.cell (World.block_lt_of_cell? a _ (h.2 i hi).2) h2).trans (h.2 i hi).2

/-- The two takes under a text's Take. -/
def tst (bs : List UInt8) (er : Int) : List UInt8 × List UInt8 × Int := rawSt ((takeSt 2 bs er).1 : Int) (takeSt 2 bs er).2.1 (takeSt 2 bs er).2.2
/-- What Take answers: the text, the error. -/
def tans (bs : List UInt8) (er : Int) : List UInt8 × Int :=
  if (tst bs er).2.2 ≠ 0 then ([], (tst bs er).2.2) else if wrongOf (tst bs er).1 ≠ 0 then ([], wrongOf (tst bs er).1) else ((tst bs er).1, 0)
def TTake (w : World) (lo g : Nat) (bs : List UInt8) (er : Int) (e : Ending) (w' : World) : Prop :=
  e = .returned (.tuple #[.string (strOf (tans bs er).1), .int .i64 (tans bs er).2]) ∧ InAt w' lo g (tst bs er).2.1 (tst bs er).2.2 ∧ Only (fun i => i = g) w w'
theorem takeSt2_lt (bs : List UInt8) (er : Int) : (takeSt 2 bs er).1 < 65536 ∧ (takeSt 2 bs er).2.1.length ≤ bs.length := by
  unfold takeSt
  split
  · simp
  · split
    · simp
    · split
      · simp
      · have h := le_lt (bs.take 2)
        have h2 : (bs.take 2).length ≤ 2 := by rw [List.length_take]; omega
        have h3 : 256 ^ (bs.take 2).length ≤ 256 ^ 2 := Nat.pow_le_pow_right (by omega) h2
        refine ⟨?_, by simp⟩
        show le (bs.take 2) < 65536
        omega
theorem rawSt_len (n : Int) (bs : List UInt8) (er : Int) : (rawSt n bs er).1.length ≤ bs.length := by
  unfold rawSt
  repeat' split
  all_goals simp
  all_goals omega

set_option maxHeartbeats 1000000 in
theorem ttake_any (lo g : Nat) (bs : List UInt8) (er : Int) (w : World) (hI : InAt w lo g bs er) (hT : Tabs w) (h1 : ¬ 1 = g) (h2 : ¬ 2 = g) (hb : bs.length ≤ 140737488355328) :
    Calls Tryz.prog 79 #[.pointer (some ⟨g, 0, none⟩)] w (TTake w lo g bs er) := by
  have C1 := Lib.hid (take_any lo g 2 bs er w hI)
  have hlt := takeSt2_lt bs er
  have HT := Lib.hid hT
  have hrl := rawSt_len ((takeSt 2 bs er).1 : Int) (takeSt 2 bs er).2.1 (takeSt 2 bs er).2.2
  have hts : tst bs er = rawSt ((takeSt 2 bs er).1 : Int) (takeSt 2 bs er).2.1 (takeSt 2 bs er).2.2 := rfl
  generalize takeSt 2 bs er = s1 at C1 hlt hrl hts
  obtain ⟨n, bs1, er1⟩ := s1
  simp only at hlt hrl hts
  rw [← hts] at hrl
  have hte : tans bs er = if (tst bs er).2.2 ≠ 0 then ([], (tst bs er).2.2) else if wrongOf (tst bs er).1 ≠ 0 then ([], wrongOf (tst bs er).1) else ((tst bs er).1, 0) := rfl
  have fin : ∀ w' a, Only (fun i => i = g) w w' → InAt w' lo g (tst bs er).2.1 (tst bs er).2.2 → tans bs er = a → TTake w lo g bs er (.returned (.tuple #[.string (strOf a.1), .int .i64 a.2])) w' := by
    rintro w' _ k hi rfl
    exact ⟨rfl, hi, k⟩
  have HF := Lib.hid fin
  have Hts := Lib.hid hts
  have Hte := Lib.hid hte
  have hwu : IntKind.i64.wrap (n : Int) = (n : Int) := IntWalk.i64_in _ (by omega)
  clear fin hI hT hts hte
  go_enter Tryz.func79, Tryz.ntmps79
  go_wp2_with fail
  refine C1.out.mono ?_
  rintro e w1 ⟨rfl, i1, k1⟩
  have C2 := Lib.hid (raw_any lo g (n : Int) bs1 er1 w1 i1 (by omega))
  rw [← Hts.out] at C2
  have K1 := Lib.hid k1
  clear i1 k1 C1
  simp only
  go_wp2_with fail
  refine C2.out.mono ?_
  rintro e w2 ⟨u, rfl, ow, i2, k2⟩
  have hcv := run_str u _ _ _ w2 (owns_SlIs ow)
  have K2 : Hid (Only (fun i => i = g) w w2) := K1.out.trans k2 (fun _ _ h => h)
  have C3 := Lib.hid (err_any lo g _ _ w2 i2)
  have I2 := Lib.hid i2
  have hT2 : Tabs w2 := HT.out.only K2.out h1 h2
  have C4 := Lib.hid (wrong_any (tst bs er).1 w2 hT2 (by omega))
  clear ow i2 k2 K1 C2 hT2 Hts
  generalize hst : tst bs er = st at hcv C3 C4 I2 Hte HF hrl
  obtain ⟨x, bs2, er2⟩ := st
  simp only at hcv C3 C4 I2 Hte HF hrl
  go_wp2_with fail
  refine C3.out.mono ?_
  rintro e w' ⟨rfl, rfl⟩
  clear C3
  by_cases he : er2 = 0
  · subst he
    have hte := Hte.out
    rw [if_neg (by simp)] at hte
    have Hte := Lib.hid hte
    clear hte
    go_wp2_with fail
    refine C4.out.mono ?_
    rintro e w3 ⟨rfl, hb3⟩
    have hlt2 := I2.out.lt
    have k3 : Only (fun i => i = g) w w3 := K2.out.trans (Only.of_below hb3) (fun i hi h => absurd hi (by have := K2.out.size; omega))
    have i3 := I2.out.only (Only.of_below hb3) (fun i _ hi h => by omega)
    by_cases hw : wrongOf x = 0
    · rw [hw]
      have R := Lib.hid (HF.out _ _ k3 i3 (by rw [Hte.out, if_neg (by simp [hw])]))
      clear C4 HF hb3 k3 i3 I2 K2
      go_wp2
      go_ret2
      exact R.out
    · have R := Lib.hid (HF.out _ _ k3 i3 (by rw [Hte.out, if_pos hw]))
      have hne : (wrongOf x == 0) = false := by simpa using hw
      have hne2 : (wrongOf x != 0) = true := by simpa using hw
      clear C4 HF hb3 k3 i3 I2 K2 Hte hw
      generalize wrongOf x = ew at hne hne2 R ⊢
      go_wp2
      go_ret2
      exact R.out
  · have R := Lib.hid (HF.out _ _ K2.out I2.out (by rw [Hte.out, if_pos he]))
    have hne : (er2 == 0) = false := by simpa using he
    have hne2 : (er2 != 0) = true := by simpa using he
    clear C4 HF I2 K2 Hte he
    go_wp2
    go_ret2
    exact R.out
end Go.Proofs.YtepiifbleoimkaaGreatDoor
