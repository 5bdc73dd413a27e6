/-
  Package frame: New, Dead, Held, Twin, Wrap, whole; Clone of the library: what each call answers and what it does to memory.
-/
import Derived.Test.YtfldgoggaadohaaFrameA
import Derived.Test.YtfldgoggaadohaaDrawn
namespace Go.Proofs.Ytfldgoggaadohaa
open Go.RowKit

set_option maxHeartbeats 400000 in
theorem cloneb_nil (n c : Nat) (w : World) :
    Calls Try.prog 17 #[.slice none n c] w (Cloned w []) := by
  have hnil := fun W => Go.Lib.run_eql_slice_nil (P := Try.prog) W 22 5 none n c 0 0 Try.underlying22
  go_enter Try.func17, Try.ntmps17
  go_wp2
  go_ret
  exact ⟨_, rfl, World.ownsRow_nil _ _ _ _, Below.refl _ _⟩

set_option maxHeartbeats 400000 in
theorem cloneb_some (ad : Addr) (c : Nat) (bs : List UInt8) (w : World) (lo hi : Nat) (hv : SlIs w lo hi (.slice (some ad) bs.length c) bs) (hhi : hi ≤ w.heap.size) (hl : bs.length ≤ 140737488355328) :
    Calls Try.prog 17 #[.slice (some ad) bs.length c] w (Cloned w bs) := by
  have hnil := fun W => Go.Lib.run_eql_slice_nil (P := Try.prog) W 22 5 (some ad) bs.length c 0 0 Try.underlying22
  obtain ⟨i0, hi0, hz0, hz1, hz2⟩ := info_parts Try.info8
  have hown : (w.alloc (.cells #[] 5)).ownsRow w.heap.size 5 1 (.slice (some ⟨w.heap.size, 0, none⟩) 0 0) ([] : List UInt8).length (b8s []) :=
    World.ownsRow_made w #[] 0 (Nat.le_refl _) (by simp [maxLen]) (by simp)
  have H1 := Lib.hid hown
  have H2 := Lib.hid (hv.alloc (o := .cells #[] 5) hhi)
  clear hown hv
  go_enter Try.func17, Try.ntmps17
  go_wp2_with (at_builtin; refine wpList_append_bytes _ rfl (.tmp 5) (.tmp 6) 22 rfl w.heap.size 5 i0 Try.underlying22 hi0 hz0 hz1 hz2 _ [] bs rfl H1.out lo hi _ rfl H2.out (by simpa using hl) (by simp) ?_)
  intro v' w1 h1 h2 _
  have h1 : w1.ownsRow w.heap.size 5 1 v' bs.length (b8s bs) := by simpa using h1
  have R : Hid (Cloned w bs (.returned v') w1) := ⟨_, rfl, h1, ((Below.refl _ w).alloc (Nat.le_refl _) _).grown h2 (by simp) (by simp [Value.ownBlock])⟩
  clear h1 h2
  go_wp2
  go_ret
  exact R.out

/-- Clone: a row of one's own with these bytes; nothing that was there turns. -/
theorem cloneb_any (v : Value) (bs : List UInt8) (lo hi : Nat) (w : World) (hv : SlIs w lo hi v bs) (hhi : hi ≤ w.heap.size) (hl : bs.length ≤ 140737488355328) :
    Calls Try.prog 17 #[v] w (Cloned w bs) := by
  have hv' := hv
  obtain ⟨A, c, rfl, hc, hm, hr⟩ := hv
  cases A with
  | none =>
    have : bs = [] := by
      rcases Nat.eq_zero_or_pos bs.length with h0 | h0
      · exact List.eq_nil_of_length_eq_zero h0
      · obtain ⟨ad, h, _⟩ := hr h0
        cases h
    subst this
    exact cloneb_nil _ _ w
  | some ad => exact cloneb_some ad c bs w lo hi hv' hhi hl

/-- A stream at block g: its list v, its bytes, whether it is dead; all in blocks from B on. -/
structure StAt (t : TypeId) (w : World) (B g : Nat) (v : Value) (bs : List UInt8) (dead : Bool) : Prop where
  has : Has w g t #[v, .bool dead]
  own : w.ownsRow B 5 1 v bs.length (b8s bs)
  low : B ≤ g
section
variable {t : TypeId} {a b w : World} {S : Nat → Prop} {B g : Nat} {v : Value} {bs : List UInt8} {dead : Bool}
theorem StAt.only (h : StAt t a B g v bs dead) (k : Only S a b) (hn : ∀ i, Foot g v i → ¬ S i) : StAt t b B g v bs dead :=
  ⟨h.has.only k (hn _ (.inl rfl)), owns_only h.own k (fun i hi => hn i (.inr hi)), h.low⟩
theorem StAt.foot_lt (h : StAt t a B g v bs dead) {i : Nat} (hi : Foot g v i) : B ≤ i ∧ i < a.heap.size := by
  rcases hi with rfl | hi
  · exact ⟨h.low, h.has.lt⟩
  · exact h.own.lt i hi
theorem StAt.new (w : World) (B : Nat) (hB : B ≤ w.heap.size) : StAt t (w.alloc (.cells #[.slice none 0 0, .bool false] t)) B w.heap.size (.slice none 0 0) [] false := ⟨Has.new _ _ _, World.ownsRow_nil _ _ _ _, hB⟩
end

def NewStep (w : World) (e : Ending) (w' : World) : Prop := e = .returned (.pointer (some ⟨w.heap.size, 0, none⟩)) ∧ w' = w.alloc (.cells #[.slice none 0 0, .bool false] 47)
set_option maxHeartbeats 400000 in
theorem new_any (w : World) : Calls Try.prog 8 #[] w (NewStep w) := by
  go_enter Try.func8, Try.ntmps8
  go_wp2
  go_ret
  exact ⟨rfl, rfl⟩

set_option maxHeartbeats 400000 in
theorem dead_any (B g : Nat) (v : Value) (bs : List UInt8) (dead : Bool) (w : World) (h : StAt 47 w B g v bs dead) :
    Calls Try.prog 13 #[.pointer (some ⟨g, 0, none⟩)] w fun e w' => e = .returned (.bool dead) ∧ w = w' := by
  have hc := h.has.cell 1
  simp at hc
  clear h
  go_enter Try.func13, Try.ntmps13
  go_wp2
  go_ret
  exact ⟨rfl, rfl⟩
set_option maxHeartbeats 400000 in
theorem held_any (B g : Nat) (v : Value) (bs : List UInt8) (dead : Bool) (w : World) (h : StAt 47 w B g v bs dead) :
    Calls Try.prog 14 #[.pointer (some ⟨g, 0, none⟩)] w fun e w' => e = .returned (.int .i64 (bs.length : Int)) ∧ w = w' := by
  obtain ⟨A, c, rfl, _⟩ := owns_slice h.own
  have hc := h.has.cell 0
  simp at hc
  clear h
  go_enter Try.func14, Try.ntmps14
  go_wp2
  go_ret
  exact ⟨rfl, rfl⟩

/-- whole: how many bytes the first message takes; none where the size may not be. -/
def wholeN (m : Int) (bs : List UInt8) : Option Nat :=
  if bs.length < 4 then some 0 else if hd bs < 7 ∨ m < (hd bs : Int) then none else if bs.length < hd bs then some 0 else some (hd bs)
def WholeStep (w : World) (r : Option Nat) (e : Ending) (w' : World) : Prop :=
  match r with
  | none => e = .panicked [{ v := .iface 36 (.int .i64 2), recovered := false }] ∧ Below w.heap.size w w'
  | some n => e = .returned (.int .i64 (n : Int)) ∧ Below w.heap.size w w'

set_option maxHeartbeats 1000000 in
theorem whole_any (v : Value) (bs : List UInt8) (lo hi : Nat) (m : Int) (w : World) (hv : SlIs w lo hi v bs) (hhi : hi ≤ w.heap.size) (hl : bs.length ≤ 1000000) :
    Calls Try.prog 20 #[v, .int .i64 m] w (WholeStep w (wholeN m bs)) := by
  obtain ⟨A, c, rfl, hc, hm, hr⟩ := hv
  by_cases h4 : bs.length < 4
  · have R : Hid (WholeStep w (wholeN m bs) (.returned (.int .i64 0)) w) := by
      rw [wholeN, if_pos h4]
      exact ⟨rfl, Below.refl _ _⟩
    have hd4 : decide ((bs.length : Int) < 4) = true := decide_eq_true (by omega)
    clear hr
    go_enter Try.func20, Try.ntmps20
    go_wp2
    go_ret
    exact R.out
  · have hd4 : decide ((bs.length : Int) < 4) = false := decide_eq_false (by omega)
    have h4c : (4 : Nat) ≤ c := by omega
    have hlen : (bs.take 4).length = 4 := by rw [List.length_take]; omega
    have hs4 : SlIs w lo hi (.slice A 4 c) (bs.take 4) := ⟨A, c, by rw [hlen], by omega, hm, hr.take 4⟩
    have hst : takeSt 4 (bs.take 4) 0 = (hd bs, [], 0) := by
      rw [takeSt, if_neg (by simp), if_neg (by omega), if_neg (by omega)]
      have e : (bs.take 4).take (4 : Int).toNat = bs.take 4 := List.take_of_length_le (by rw [hlen]; decide)
      have e2 : (bs.take 4).drop (4 : Int).toNat = [] := List.drop_eq_nil_of_le (by rw [hlen]; decide)
      rw [e, e2]
      rfl
    have hlt := hd_lt bs
    have HC := Lib.hid (of_any (.slice A 4 c) (bs.take 4) lo hi w hs4 hhi (by omega))
    have HW : Hid (wholeN m bs = if hd bs < 7 ∨ m < (hd bs : Int) then none else if bs.length < hd bs then some 0 else some (hd bs)) := by
      show _ = _
      rw [wholeN, if_neg h4]
    simp only [maxLen] at hm
    have HST := Lib.hid hst
    obtain ⟨n, hn⟩ : ∃ n, n = hd bs := ⟨_, rfl⟩
    rw [← hn] at hlt HW HST
    have hwr : IntKind.i64.wrap (n : Int) = (n : Int) := IntWalk.i64_in _ (by omega)
    clear hr hs4 hst hlen hn
    go_enter Try.func20, Try.ntmps20
    go_wp2_with fail
    refine HC.out.mono ?_
    rintro e w1 ⟨g, rfl, i1, b1⟩
    have CT := Lib.hid (take_any _ g 4 (bs.take 4) 0 w1 i1)
    rw [HST.out] at CT
    have HB := Lib.hid b1
    have gl := i1.lt
    clear HC i1 b1
    go_wp2_with fail
    refine CT.out.mono ?_
    rintro e w2 ⟨rfl, _, k2⟩
    have KB : Hid (Below w.heap.size w w2) := HB.out.trans (k2.below HB.out.size (fun i hi h => by omega))
    clear CT HB k2
    by_cases hb : n < 7 ∨ m < (n : Int)
    · have R : Hid (WholeStep w (wholeN m bs) (.panicked [{ v := .iface 36 (.int .i64 2), recovered := false }]) w2) := by
        rw [HW.out, if_pos hb]
        exact ⟨rfl, KB.out⟩
      clear HW HST KB
      by_cases h7 : n < 7
      · have d7 : decide ((7 : Int) ≤ (n : Int)) = false := decide_eq_false (by omega)
        clear hb
        go_wp2_with fail
        refine (must_no 2 w2).mono ?_
        rintro e w' ⟨rfl, rfl⟩
        go_wp2
        exact ⟨rfl, R.out⟩
      · have d7 : decide ((7 : Int) ≤ (n : Int)) = true := decide_eq_true (by omega)
        have dm : decide ((n : Int) ≤ m) = false := decide_eq_false (by omega)
        clear hb
        go_wp2_with fail
        refine (must_no 2 w2).mono ?_
        rintro e w' ⟨rfl, rfl⟩
        go_wp2
        exact ⟨rfl, R.out⟩
    · have d7 : decide ((7 : Int) ≤ (n : Int)) = true := decide_eq_true (by omega)
      have dm : decide ((n : Int) ≤ m) = true := decide_eq_true (by omega)
      by_cases hw : bs.length < n
      · have R : Hid (WholeStep w (wholeN m bs) (.returned (.int .i64 0)) w2) := by
          rw [HW.out, if_neg hb, if_pos hw]
          exact ⟨rfl, KB.out⟩
        have dl : decide ((bs.length : Int) < (n : Int)) = true := decide_eq_true (by omega)
        clear hb HW HST KB
        go_wp2_with fail
        refine (must_yes 2 w2).mono ?_
        rintro e w' ⟨rfl, rfl⟩
        go_wp2
        go_ret
        exact R.out
      · have R : Hid (WholeStep w (wholeN m bs) (.returned (.int .i64 (n : Int))) w2) := by
          rw [HW.out, if_neg hb, if_neg hw]
          exact ⟨rfl, KB.out⟩
        have dl : decide ((bs.length : Int) < (n : Int)) = false := decide_eq_false (by omega)
        clear hb HW HST KB
        go_wp2_with fail
        refine (must_yes 2 w2).mono ?_
        rintro e w' ⟨rfl, rfl⟩
        go_wp2
        go_ret
        exact R.out
end Go.Proofs.Ytfldgoggaadohaa
