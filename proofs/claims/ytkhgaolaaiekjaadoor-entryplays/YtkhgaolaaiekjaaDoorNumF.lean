/-
  Package num: guard, at each of the two functions that are handed to it; Take and Raw of an In.
-/
import Derived.Test.YtkhgaolaaiekjaaDoorNumE
namespace Go.Proofs.YtkhgaolaaiekjaaDoor
open Go.RowKit

set_option maxHeartbeats 400000 in
theorem guard_ok (lo gI : Nat) (bs : List UInt8) (w : World) (g : Nat) (lb : Array Value) (eg : ∀ args w, (callFunc g args).run Tryd.prog w = .ok (.enter g args) w) (R : World → Prop) (h : InAt w lo gI bs 0)
    (hR : Calls Tryd.prog g lb (w.alloc errBox) fun e w' => e = .returned (.tuple #[]) ∧ Has w' w.heap.size 26 #[.int .i64 0] ∧ R w') :
    Calls Tryd.prog 51 #[.pointer (some ⟨gI, 0, none⟩), .func (.func g) #[] lb] w fun e w' => e = .returned (.tuple #[]) ∧ R w' := by
  obtain ⟨A, c, h1, h2, h3, h4, h5⟩ := h
  have hc := h1.cell 1
  simp at hc
  have H := Lib.hid (caught_ok g lb eg w R hR)
  clear h1 h4 hR eg
  go_enter Tryd.func51, Tryd.ntmps51
  go_wp2_with fail
  refine H.out.mono ?_
  rintro e w' ⟨rfl, hr⟩
  have HR := Lib.hid hr
  clear hr H
  go_wp2
  go_end0
  exact ⟨rfl, HR.out⟩

/-- What guard leaves where the function panics. -/
def failed (w : World) (gI : Nat) (er : Int) : World :=
  (((w.alloc errBox).setCell ⟨w.heap.size, 0, none⟩ (.int .i64 er)).setCell ⟨gI, 0, none⟩ (.slice none 0 0)).setCell ⟨gI, 1, none⟩ (.int .i64 er)

set_option maxHeartbeats 400000 in
theorem guard_panic (lo gI : Nat) (bs : List UInt8) (w : World) (g : Nat) (lb : Array Value) (eg : ∀ args w, (callFunc g args).run Tryd.prog w = .ok (.enter g args) w) (er : Int) (h : InAt w lo gI bs 0) (he : er ≠ 0)
    (hR : Calls Tryd.prog g lb (w.alloc errBox) fun e w' => e = .panicked [{ v := .iface 26 (.int .i64 er), recovered := false }] ∧ w.alloc errBox = w') :
    Calls Tryd.prog 51 #[.pointer (some ⟨gI, 0, none⟩), .func (.func g) #[] lb] w fun e w' => e = .returned (.tuple #[]) ∧ failed w gI er = w' := by
  obtain ⟨A, c, h1, h2, h3, h4, h5⟩ := h
  have hc := h1.cell 1
  simp at hc
  have hlt := h1.lt
  have H := Lib.hid (caught_panic g lb eg w er (fun w' => w.alloc errBox = w') (hR.mono fun e w' hh => ⟨hh.1, hh.2 ▸ Has.new _ _ _, hh.2⟩))
  have H1 := Lib.hid h1
  clear h1 h4 hR eg
  have hb : (er == 0) = false := by simpa using he
  have hne : (er != 0) = true := by simpa using he
  have hd : decide (er = 0) = false := decide_eq_false he
  go_enter Tryd.func51, Tryd.ntmps51
  go_wp2_with fail
  refine H.out.mono ?_
  rintro e w' ⟨rfl, w1, hb1, rfl, hw⟩
  obtain ⟨W, hW⟩ : ∃ W, W = (w.alloc errBox).setCell ⟨w.heap.size, 0, none⟩ (.int .i64 er) := ⟨_, rfl⟩
  have hg : Has W gI 83 #[.slice A bs.length c, .int .i64 0] := by
    rw [hW]
    exact (H1.out.alloc _).far (by show gI ≠ w.heap.size; omega) _
  have R : Hid (failed w gI er = (W.setCell ⟨gI, 0, none⟩ (.slice none 0 0)).setCell ⟨gI, 1, none⟩ (.int .i64 er)) := by
    rw [hW]; exact rfl
  rw [← hW] at hw
  subst hw
  have c0 := hg.cell 0
  have c1 := hg.cell 1
  have f0 := hg.frozen 0
  have f1 := hg.frozen 1
  simp at c0 c1
  clear hg hb1 H H1 hW hc
  go_wp2
  go_end0
  exact ⟨rfl, R.out⟩

set_option maxHeartbeats 400000 in
theorem guard_skip (lo gI : Nat) (bs : List UInt8) (er : Int) (w : World) (f : Value) (h : InAt w lo gI bs er) (he : er ≠ 0) :
    Calls Tryd.prog 51 #[.pointer (some ⟨gI, 0, none⟩), f] w fun e w' => e = .returned (.tuple #[]) ∧ w = w' := by
  obtain ⟨A, c, h1, h2, h3, h4, h5⟩ := h
  have hc := h1.cell 1
  simp at hc
  have hb : (er == 0) = false := by simpa using he
  have hne : (er != 0) = true := by simpa using he
  clear h1 h4 he
  go_enter Tryd.func51, Tryd.ntmps51
  go_wp2
  first | go_end0 | refine bodyPost_ret (results_none rfl _ _ _) rfl ?_
  exact ⟨rfl, rfl⟩

theorem Tryd.enterTake : ∀ args w, (callFunc 52 args).run Tryd.prog w = .ok (.enter 52 args) w := enters_of Tryd.func52 (by kernel_rfl) rfl
theorem Tryd.enterRaw : ∀ args w, (callFunc 58 args).run Tryd.prog w = .ok (.enter 58 args) w := enters_of Tryd.func58 (by kernel_rfl) rfl

/-- What Take(n) answers, and the In behind it. -/
def takeSt (n : Int) (bs : List UInt8) (er : Int) : Nat × List UInt8 × Int :=
  if er ≠ 0 then (0, bs, er) else if n < 1 ∨ 8 < n then (0, [], 1) else if (bs.length : Int) < n then (0, [], 4) else (le (bs.take n.toNat), bs.drop n.toNat, 0)
/-- What Raw(n) answers, and the In behind it. -/
def rawSt (n : Int) (bs : List UInt8) (er : Int) : List UInt8 × List UInt8 × Int :=
  if er ≠ 0 then ([], bs, er) else if n < 0 then ([], [], 1) else if (bs.length : Int) < n then ([], [], 4) else (bs.take n.toNat, bs.drop n.toNat, 0)

def GTake (W : World) (lo g vb : Nat) (st : Nat × List UInt8 × Int) (e : Ending) (w' : World) : Prop :=
  e = .returned (.tuple #[]) ∧ Has w' vb 53 #[.int .u64 st.1] ∧ InAt w' lo g st.2.1 st.2.2 ∧ Only (fun i => i = g ∨ i = vb) W w'
def GRaw (W : World) (lo g vb : Nat) (st : List UInt8 × List UInt8 × Int) (e : Ending) (w' : World) : Prop :=
  ∃ u, e = .returned (.tuple #[]) ∧ Has w' vb 25 #[u] ∧ w'.ownsRow W.heap.size 5 1 u st.1.length (b8s st.1) ∧ InAt w' lo g st.2.1 st.2.2 ∧ Only (fun i => i = g ∨ i = vb) W w'

/-- An In that fails: its list is dropped, its error set. -/
theorem in_fails {W : World} {lo g vb : Nat} {bs : List UInt8} {er : Int} {t : TypeId} {u : Value} (hI : InAt W lo g bs 0) (hv : Has W vb t #[u]) (hgv : g < vb) :
    Has (failed W g er) vb t #[u] ∧ InAt (failed W g er) lo g [] er ∧ Only (fun i => i = g ∨ i = vb) W (failed W g er) := by
  obtain ⟨A, c, h1, h2, h3, h4, h5⟩ := hI
  have k : Only (fun i => i = g) W (failed W g er) :=
    ((((Only.refl (fun i => i = g) W).alloc errBox).setCell (p := ⟨W.heap.size, 0, none⟩) (fun h => absurd h (Nat.lt_irrefl _)) _).setCell (p := ⟨g, 0, none⟩) (fun _ => rfl) _).setCell (p := ⟨g, 1, none⟩) (fun _ => rfl) _
  have hlt := h1.lt
  have hg := (h1.alloc errBox).far (p := ⟨W.heap.size, 0, none⟩) (by show g ≠ W.heap.size; omega) (.int .i64 er)
  exact ⟨hv.only k (by omega), ⟨none, 0, (hg.set 0 _).set 1 _, by simp, by simp, Rd.empty _ _ _ _, h5⟩, k.mono fun i _ h => .inl h⟩

theorem guard_take (lo g nb ib vb : Nat) (n : Int) (bs : List UInt8) (er : Int) (W : World) (hn : Has W nb 3 #[.int .i64 n]) (hi : Has W ib 65 #[.pointer (some ⟨g, 0, none⟩)])
    (hv : Has W vb 53 #[.int .u64 0]) (hI : InAt W lo g bs er) (hgv : g < vb) :
    Calls Tryd.prog 51 #[.pointer (some ⟨g, 0, none⟩), .func (Fn.func 52) #[] #[.pointer (some ⟨nb, 0, none⟩), .pointer (some ⟨ib, 0, none⟩), .pointer (some ⟨vb, 0, none⟩)]] W (GTake W lo g vb (takeSt n bs er)) := by
  have k0 : ∀ S o, Only S W (W.alloc o) := fun S o => (Only.refl S W).alloc o
  by_cases he : er ≠ 0
  · refine (guard_skip lo g bs er W _ hI he).mono ?_
    rintro e w' ⟨rfl, rfl⟩
    rw [takeSt, if_pos he]
    exact ⟨rfl, hv, hI, Only.refl _ _⟩
  · have he : er = 0 := by omega
    subst he
    have hI1 := hI.only (k0 (fun _ => False) errBox) (fun _ _ _ h => h)
    by_cases h1 : n < 1 ∨ 8 < n
    · refine (guard_panic lo g bs W _ _ Tryd.enterTake 1 hI (by decide) (take1_arg nb ib vb n _ (hn.alloc _) h1)).mono ?_
      rintro e w' ⟨rfl, rfl⟩
      rw [takeSt, if_neg (by simp), if_pos h1]
      exact ⟨rfl, in_fails hI hv hgv⟩
    · by_cases h2 : (bs.length : Int) < n
      · refine (guard_panic lo g bs W _ _ Tryd.enterTake 4 hI (by decide) (take1_short lo g nb ib vb n bs _ (hn.alloc _) (hi.alloc _) hI1 (by omega) (by omega) h2)).mono ?_
        rintro e w' ⟨rfl, rfl⟩
        rw [takeSt, if_neg (by simp), if_neg h1, if_pos h2]
        exact ⟨rfl, in_fails hI hv hgv⟩
      · obtain ⟨m, rfl⟩ : ∃ m : Nat, n = (m : Int) := ⟨n.toNat, by omega⟩
        have hvl := hv.lt
        refine (guard_ok lo g bs W _ _ Tryd.enterTake (fun w' => GTake W lo g vb (takeSt (m : Int) bs 0) (.returned (.tuple #[])) w') hI ((take1_ok lo g nb ib vb m bs _ (hn.alloc _) (hi.alloc _) (hv.alloc _) hI1 hgv (by omega) (by omega) (by omega)).mono ?_)).mono ?_
        · rintro e w' ⟨u, rfl, q1, rfl, q3, q4⟩
          refine ⟨rfl, (Has.new W _ _).only q4 (by omega), rfl, ?_, ?_, (k0 _ _).trans q4 (fun _ _ h => h)⟩
          · rw [takeSt, if_neg (by simp), if_neg h1, if_neg h2]
            exact q1
          · rw [takeSt, if_neg (by simp), if_neg h1, if_neg h2]
            exact q3
        · rintro e w' ⟨rfl, h⟩
          exact h

theorem guard_raw (lo g nb ib vb : Nat) (n : Int) (bs : List UInt8) (er : Int) (W : World) (hn : Has W nb 3 #[.int .i64 n]) (hi : Has W ib 65 #[.pointer (some ⟨g, 0, none⟩)])
    (hv : Has W vb 25 #[.slice none 0 0]) (hI : InAt W lo g bs er) (hgv : g < vb) (hb : bs.length ≤ 140737488355328) :
    Calls Tryd.prog 51 #[.pointer (some ⟨g, 0, none⟩), .func (Fn.func 58) #[] #[.pointer (some ⟨nb, 0, none⟩), .pointer (some ⟨ib, 0, none⟩), .pointer (some ⟨vb, 0, none⟩)]] W (GRaw W lo g vb (rawSt n bs er)) := by
  have k0 : ∀ S o, Only S W (W.alloc o) := fun S o => (Only.refl S W).alloc o
  by_cases he : er ≠ 0
  · refine (guard_skip lo g bs er W _ hI he).mono ?_
    rintro e w' ⟨rfl, rfl⟩
    rw [rawSt, if_pos he]
    exact ⟨_, rfl, hv, World.ownsRow_nil _ _ _ _, hI, Only.refl _ _⟩
  · have he : er = 0 := by omega
    subst he
    have hI1 := hI.only (k0 (fun _ => False) errBox) (fun _ _ _ h => h)
    by_cases h1 : n < 0
    · refine (guard_panic lo g bs W _ _ Tryd.enterRaw 1 hI (by decide) (raw1_arg nb ib vb n _ (hn.alloc _) h1)).mono ?_
      rintro e w' ⟨rfl, rfl⟩
      rw [rawSt, if_neg (by simp), if_pos h1]
      obtain ⟨q1, q2, q3⟩ := in_fails (er := 1) hI hv hgv
      exact ⟨_, rfl, q1, World.ownsRow_nil _ _ _ _, q2, q3⟩
    · by_cases h2 : (bs.length : Int) < n
      · refine (guard_panic lo g bs W _ _ Tryd.enterRaw 4 hI (by decide) (raw1_short lo g nb ib vb n bs _ (hn.alloc _) (hi.alloc _) hI1 (by omega) h2)).mono ?_
        rintro e w' ⟨rfl, rfl⟩
        rw [rawSt, if_neg (by simp), if_neg h1, if_pos h2]
        obtain ⟨q1, q2, q3⟩ := in_fails (er := 4) hI hv hgv
        exact ⟨_, rfl, q1, World.ownsRow_nil _ _ _ _, q2, q3⟩
      · obtain ⟨m, rfl⟩ : ∃ m : Nat, n = (m : Int) := ⟨n.toNat, by omega⟩
        have hvl := hv.lt
        refine (guard_ok lo g bs W _ _ Tryd.enterRaw (fun w' => GRaw W lo g vb (rawSt (m : Int) bs 0) (.returned (.tuple #[])) w') hI ((raw1_ok lo g nb ib vb m bs _ (hn.alloc _) (hi.alloc _) (hv.alloc _) hI1 hgv (by omega) hb).mono ?_)).mono ?_
        · rintro e w' ⟨u, rfl, q1, q2, q3, q4⟩
          refine ⟨rfl, (Has.new W _ _).only q4 (by omega), u, rfl, q1, ?_, ?_, (k0 _ _).trans q4 (fun _ _ h => h)⟩
          · rw [rawSt, if_neg (by simp), if_neg h1, if_neg h2]
            exact owns_base q2 (by simp)
          · rw [rawSt, if_neg (by simp), if_neg h1, if_neg h2]
            exact q3
        · rintro e w' ⟨rfl, h⟩
          exact h

def TakeStep (w : World) (lo g : Nat) (st : Nat × List UInt8 × Int) (e : Ending) (w' : World) : Prop :=
  e = .returned (.int .u64 st.1) ∧ InAt w' lo g st.2.1 st.2.2 ∧ Only (fun i => i = g) w w'
def RawStep (w : World) (lo g : Nat) (st : List UInt8 × List UInt8 × Int) (e : Ending) (w' : World) : Prop :=
  ∃ u, e = .returned u ∧ w'.ownsRow w.heap.size 5 1 u st.1.length (b8s st.1) ∧ InAt w' lo g st.2.1 st.2.2 ∧ Only (fun i => i = g) w w'

/-- The three variables that Take and Raw lay. -/
theorem laid3 {w : World} {lo g : Nat} {bs : List UInt8} {er n : Int} {t : TypeId} {z : Value} (hI : InAt w lo g bs er) :
    let W := ((w.alloc (.cells #[.pointer (some ⟨g, 0, none⟩)] 65)).alloc (.cells #[.int .i64 n] 3)).alloc (.cells #[z] t)
    Has W (w.heap.size + 1) 3 #[.int .i64 n] ∧ Has W w.heap.size 65 #[.pointer (some ⟨g, 0, none⟩)] ∧ Has W (w.heap.size + 2) t #[z] ∧ InAt W lo g bs er ∧ Only (fun _ => False) w W ∧ W.heap.size = w.heap.size + 3 := by
  intro W
  have h1 := Has.new w 65 #[.pointer (some ⟨g, 0, none⟩)]
  have h2 := Has.new (w.alloc (.cells #[.pointer (some ⟨g, 0, none⟩)] 65)) 3 #[.int .i64 n]
  have h3 := Has.new ((w.alloc (.cells #[.pointer (some ⟨g, 0, none⟩)] 65)).alloc (.cells #[.int .i64 n] 3)) t #[z]
  have k : Only (fun _ => False) w W := (((Only.refl _ w).alloc _).alloc _).alloc _
  simp only [World.size_alloc] at h2 h3
  exact ⟨h2.alloc _, (h1.alloc _).alloc _, h3, hI.only k (fun _ _ _ h => h), k, by simp [W]⟩

set_option maxHeartbeats 400000 in
theorem take_any (lo g : Nat) (n : Int) (bs : List UInt8) (er : Int) (w : World) (hI : InAt w lo g bs er) :
    Calls Tryd.prog 39 #[.pointer (some ⟨g, 0, none⟩), .int .i64 n] w (TakeStep w lo g (takeSt n bs er)) := by
  obtain ⟨a1, a2, a3, a4, a5, a6⟩ := laid3 (n := n) (t := 53) (z := .int .u64 0) hI
  have hg := hI.lt
  have H := Lib.hid (guard_take lo g _ _ _ n bs er _ a1 a2 a3 a4 (by omega))
  have H5 := Lib.hid a5
  clear a1 a2 a3 a4 a5 a6 hI
  have hmf : ∀ (fn : Fn) (first cap : Array Value) (w : World), (Instr.makeFunc fn first cap).run Tryd.prog w = .ok (.func fn first cap) w := fun _ _ _ _ => rfl
  go_enter Tryd.func39, Tryd.ntmps39
  go_wp2_with fail
  refine H.out.mono ?_
  rintro e w' ⟨rfl, b1, b2, b3⟩
  have R : Hid (TakeStep w lo g (takeSt n bs er) (.returned (.int .u64 (takeSt n bs er).1)) w') :=
    ⟨rfl, b2, (H5.out.mono fun _ _ h => h.elim).trans b3 (fun i hi h => by rcases h with h | h; exact h; omega)⟩
  have hc := b1.cell 0
  simp at hc
  obtain ⟨r, hr⟩ : ∃ r, r = (takeSt n bs er).1 := ⟨_, rfl⟩
  rw [← hr] at hc R
  clear b1 b2 b3 H H5 hr
  go_wp2
  go_ret
  exact R.out

set_option maxHeartbeats 400000 in
theorem raw_any (lo g : Nat) (n : Int) (bs : List UInt8) (er : Int) (w : World) (hI : InAt w lo g bs er) (hb : bs.length ≤ 140737488355328) :
    Calls Tryd.prog 41 #[.pointer (some ⟨g, 0, none⟩), .int .i64 n] w (RawStep w lo g (rawSt n bs er)) := by
  obtain ⟨a1, a2, a3, a4, a5, a6⟩ := laid3 (n := n) (t := 25) (z := .slice none 0 0) hI
  have hg := hI.lt
  have H := Lib.hid (guard_raw lo g _ _ _ n bs er _ a1 a2 a3 a4 (by omega) hb)
  have H5 := Lib.hid a5
  clear a1 a2 a3 a4 a5 a6 hI
  have hmf : ∀ (fn : Fn) (first cap : Array Value) (w : World), (Instr.makeFunc fn first cap).run Tryd.prog w = .ok (.func fn first cap) w := fun _ _ _ _ => rfl
  go_enter Tryd.func41, Tryd.ntmps41
  go_wp2_with fail
  refine H.out.mono ?_
  rintro e w' ⟨u, rfl, b1, b0, b2, b3⟩
  have R : Hid (RawStep w lo g (rawSt n bs er) (.returned u) w') :=
    ⟨u, rfl, owns_base b0 (by simp; omega), b2, (H5.out.mono fun _ _ h => h.elim).trans b3 (fun i hi h => by rcases h with h | h; exact h; omega)⟩
  have hc := b1.cell 0
  simp at hc
  obtain ⟨A, c, rfl, _⟩ := owns_slice b0
  obtain ⟨r, hr⟩ : ∃ r, r = (rawSt n bs er).1.length := ⟨_, rfl⟩
  rw [← hr] at hc R
  clear b1 b2 b3 b0 H H5 hr
  go_wp2
  go_ret
  exact R.out
end Go.Proofs.YtkhgaolaaiekjaaDoor
