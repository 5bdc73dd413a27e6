/-
  Package msg: the adding of texts, lists, data and records.
-/
import Derived.Test.YtepiifbleoimkaaDoorMsgA
namespace Go.Proofs.YtepiifbleoimkaaDoor
open Go.RowKit
set_option maxRecDepth 100000

/-- A slice that reads as texts; as qids. -/
def StrsAt (w : World) (lo hi : Nat) (v : Value) (L : List (List UInt8)) : Prop := ∃ A c, v = .slice A L.length c ∧ L.length ≤ c ∧ c ≤ maxLen ∧
  (0 < L.length → ∃ ad, A = some ad ∧ lo ≤ ad.block ∧ ad.block < hi ∧ ∀ j (h : j < L.length), w.cell? (ad.add j) = some (.string (strOf L[j])))
def QdsAt (w : World) (lo hi : Nat) (v : Value) (Q : List Q3) : Prop := ∃ A c, v = .slice A Q.length c ∧ Q.length ≤ c ∧ c ≤ maxLen ∧
  (0 < Q.length → ∃ ad, A = some ad ∧ lo ≤ ad.block ∧ ad.block < hi ∧ ∀ j (h : j < Q.length), w.cell? (ad.add (j * 3)) = some (.int .u8 (Q[j].t : Int)) ∧
    w.cell? ⟨(ad.add (j * 3)).block, (ad.add (j * 3)).off + 1, none⟩ = some (.int .u32 (Q[j].v : Int)) ∧ w.cell? ⟨(ad.add (j * 3)).block, (ad.add (j * 3)).off + 2, none⟩ = some (.int .u64 (Q[j].p : Int)))
theorem StrsAt.keep {w w' : World} {lo hi : Nat} {v : Value} {L : List (List UInt8)} (h : StrsAt w lo hi v L) (hk : ∀ p : Addr, lo ≤ p.block → p.block < hi → w'.cell? p = w.cell? p) : StrsAt w' lo hi v L := by
  obtain ⟨A, c, e, h1, h2, h3⟩ := h
  refine ⟨A, c, e, h1, h2, fun hn => ?_⟩
  obtain ⟨ad, e2, b1, b2, hc⟩ := h3 hn
  exact ⟨ad, e2, b1, b2, fun j hj => (hk _ (by rw [addr_block]; exact b1) (by rw [addr_block]; exact b2)).trans (hc j hj)⟩
theorem QdsAt.keep {w w' : World} {lo hi : Nat} {v : Value} {Q : List Q3} (h : QdsAt w lo hi v Q) (hk : ∀ p : Addr, lo ≤ p.block → p.block < hi → w'.cell? p = w.cell? p) : QdsAt w' lo hi v Q := by
  obtain ⟨A, c, e, h1, h2, h3⟩ := h
  refine ⟨A, c, e, h1, h2, fun hn => ?_⟩
  obtain ⟨ad, e2, b1, b2, hc⟩ := h3 hn
  have hb : ∀ k, lo ≤ (ad.add k).block ∧ (ad.add k).block < hi := fun k => by rw [addr_block]; exact ⟨b1, b2⟩
  refine ⟨ad, e2, b1, b2, fun j hj => ?_⟩
  obtain ⟨c0, c1, c2⟩ := hc j hj
  exact ⟨(hk _ (hb _).1 (hb _).2).trans c0, (hk ⟨(ad.add (j * 3)).block, (ad.add (j * 3)).off + 1, none⟩ (hb (j * 3)).1 (hb (j * 3)).2).trans c1, (hk ⟨(ad.add (j * 3)).block, (ad.add (j * 3)).off + 2, none⟩ (hb (j * 3)).1 (hb (j * 3)).2).trans c2⟩
theorem SlIs.keep {w w' : World} {lo hi : Nat} {v : Value} {bs : List UInt8} (h : SlIs w lo hi v bs) (hk : ∀ p : Addr, lo ≤ p.block → p.block < hi → w'.cell? p = w.cell? p) : SlIs w' lo hi v bs := by
  obtain ⟨A, c, e, h1, h2, h3⟩ := h
  exact ⟨A, c, e, h1, h2, h3.keep hk⟩
/-- What keeps the cells of blocks from lo on and below hi. -/
theorem Only.keeps {S : Nat → Prop} {a b : World} (k : Only S a b) {lo hi : Nat} (hh : hi ≤ a.heap.size) (hn : ∀ i, lo ≤ i → i < hi → ¬ S i) : ∀ p : Addr, lo ≤ p.block → p.block < hi → b.cell? p = a.cell? p :=
  fun p h1 h2 => k.cell (by omega) (hn _ h1 h2)

/-- What a field's adding leaves: its bytes, or its error. -/
def PutStep (w : World) (B g : Nat) (v : Value) (bs : List UInt8) (er : Int) (more : List UInt8) (e : Ending) (w' : World) : Prop :=
  (er = 0 ∧ OutStep w B g v (bs ++ more) e w') ∨ (er ≠ 0 ∧ e = .panicked [{ v := .iface 36 (.int .i64 er), recovered := false }] ∧ Only (Foot g v) w w')

set_option maxHeartbeats 1000000 in
theorem puttext_any (B g : Nat) (v : Value) (bs l : List UInt8) (w : World) (h : OutAt w B g v bs) (hT : Tabs w) (hl : l.length ≤ 1000) (hb : bs.length ≤ 1000000) :
    Calls Tryd.prog 43 #[.pointer (some ⟨g, 0, none⟩), .string (strOf l)] w (PutStep w B g v bs (wrongOf l) (textB l)) := by
  have C := Lib.hid (tput_any B g v bs l w h hT (by omega) (by omega))
  unfold TPut at C
  by_cases hz : wrongOf l = 0
  · have R : Hid (∀ w', (∃ v', OutAt w' B g v' (bs ++ textB l) ∧ Only (Foot g v) w w' ∧ ∀ i, v'.ownBlock = some i → v.ownBlock = some i ∨ w.heap.size ≤ i) → PutStep w B g v bs (wrongOf l) (textB l) (.returned (.tuple #[])) w') := by
      rintro w' ⟨v', a, b, c⟩
      exact .inl ⟨hz, v', rfl, a, b, c⟩
    rw [hz] at C R ⊢
    clear h hT hz
    go_enter Tryd.func43, Tryd.ntmps43
    go_wp2_with fail
    refine C.out.mono ?_
    rintro e w1 ⟨v', rfl, st⟩
    have R1 := Lib.hid (R.out w1 ⟨v', st⟩)
    clear st R C
    go_wp2_with fail
    refine (must_yes 0 w1).mono ?_
    rintro e w' ⟨rfl, rfl⟩
    go_wp2
    go_end0
    exact R1.out
  · have R : Hid (∀ w', Only (Foot g v) w w' → PutStep w B g v bs (wrongOf l) (textB l) (.panicked [{ v := .iface 36 (.int .i64 (wrongOf l)), recovered := false }]) w') := fun w' k => .inr ⟨hz, rfl, k⟩
    have hzb : (wrongOf l == 0) = false := by simpa using hz
    clear h hT hz
    generalize wrongOf l = er at C R hzb
    go_enter Tryd.func43, Tryd.ntmps43
    go_wp2_with fail
    refine C.out.mono ?_
    rintro e w1 ⟨v', rfl, _, st, _⟩
    have R1 := Lib.hid (R.out w1 st)
    clear st R C
    go_wp2_with fail
    refine (must_no er w1).mono ?_
    rintro e w' ⟨rfl, rfl⟩
    go_wp2
    exact ⟨rfl, R1.out⟩

set_option maxHeartbeats 1000000 in
theorem putdata_any (B g : Nat) (v x : Value) (bs b : List UInt8) (lo hi : Nat) (w : World) (h : OutAt w B g v bs) (hx : SlIs w lo hi x b) (hhi : hi ≤ B) (hl : b.length ≤ 100000) (hb : bs.length ≤ 1000000) :
    Calls Tryd.prog 47 #[.pointer (some ⟨g, 0, none⟩), x] w (PutStep w B g v bs (fErr (.data b)) (fB (.data b))) := by
  have hft : ∀ i, Foot g v i → B ≤ i ∧ i < w.heap.size := fun i hi => h.foot_lt hi
  have hBw : B ≤ w.heap.size := by have := hft g (.inl rfl); omega
  have HX := Lib.hid (fun (w1 : World) (k : Only (Foot g v) w w1) => hx.only k (by omega) (fun i _ hi hf => by have := (hft i hf).1; omega))
  have C := Lib.hid (put_any B g v bs 4 (b.length : Int) w h (by omega) (by omega) (by omega))
  have hp : putI 4 (b.length : Int) = putB 4 b.length := putI_of 4 _ (by omega) (by omega)
  rw [hp] at C
  have hpl := putB_length 4 b.length
  obtain ⟨A, c, hxe, _⟩ := id hx
  have X0 := Lib.hid (Chain.start h)
  clear h hft hx hp
  simp only [fErr, fB]
  by_cases hz : 8192 < b.length
  · have hd : decide ((b.length : Int) ≤ 8192) = false := decide_eq_false (by omega)
    have R : Hid (PutStep w B g v bs 3 (putB 4 b.length ++ b) (.panicked [{ v := .iface 36 (.int .i64 3), recovered := false }]) w) := .inr ⟨by decide, rfl, Only.refl _ _⟩
    rw [if_pos hz, hxe]
    clear C HX X0 hpl
    go_enter Tryd.func47, Tryd.ntmps47
    go_wp2_with fail
    refine (must_no 3 w).mono ?_
    rintro e w' ⟨rfl, rfl⟩
    go_wp2
    exact ⟨rfl, R.out⟩
  · have hd : decide ((b.length : Int) ≤ 8192) = true := decide_eq_true (by omega)
    have hw : IntKind.u64.wrap (b.length : Int) = (b.length : Int) := IntWalk.u64_in _ (by omega)
    rw [if_neg hz]
    rw [hxe] at HX ⊢
    clear hxe
    go_enter Tryd.func47, Tryd.ntmps47
    go_wp2_with fail
    refine (must_yes 3 w).mono ?_
    rintro e w' ⟨rfl, rfl⟩
    go_wp2_with fail
    refine C.out.mono ?_
    intro e w1 st
    obtain ⟨v1, rfl, x1⟩ := X0.out.step st
    have C1 := Lib.hid (outraw_any B g v1 _ (bs ++ putB 4 b.length) b lo hi w1 x1.out (HX.out _ x1.only) (by simp only [List.length_append]; omega))
    have X1 := Lib.hid x1
    clear C st x1 X0 HX
    go_wp2_with fail
    refine C1.out.mono ?_
    intro e w2 st
    obtain ⟨v2, rfl, x2⟩ := X1.out.step st
    have R : Hid (PutStep w B g v bs 0 (putB 4 b.length ++ b) (.returned (.tuple #[])) w2) := .inl ⟨rfl, by rw [← List.append_assoc]; exact x2.fin (Only.refl _ _)⟩
    clear C1 X1 x2 st
    go_wp2
    go_end0
    exact R.out

set_option maxHeartbeats 1000000 in
theorem putrecord_any (B g : Nat) (v : Value) (bs : List UInt8) (s : S11) (w : World) (h : OutAt w B g v bs) (hT : Tabs w) (hn : s.Num) (hs : s.Few) (hb : bs.length ≤ 1000000) :
    Calls Tryd.prog 48 #[.pointer (some ⟨g, 0, none⟩), s.val] w (PutStep w B g v bs (wrongL s.texts) (putB 2 s.size ++ recB s)) := by
  obtain ⟨w0, hw0⟩ : ∃ w0, w0 = w.alloc (.cells s.cells 31) := ⟨_, rfl⟩
  have hN : Has w0 w.heap.size 31 s.cells := by rw [hw0]; exact Has.new _ _ _
  have hk : Only (fun _ => False) w w0 := by rw [hw0]; exact (Only.refl _ w).alloc _
  have C := Lib.hid (encode_any s w0 hn hs (hT.only hk (fun h => h) (fun h => h)))
  have X0 := Lib.hid (Chain.start (h.only hk (fun _ _ h => h)))
  have HK := Lib.hid hk
  obtain ⟨⟨d0, d1, d2, d3, d4⟩, ⟨d5, d6, d7, d8⟩, ⟨d9, d10, d11, d12⟩⟩ := hN.cells13
  have hsz : s.size ≤ 5000 := by
    obtain ⟨hs1, hs2, hs3, hs4⟩ := hs
    unfold S11.size
    omega
  have hft : ∀ i, Foot g v i → B ≤ i ∧ i < w.heap.size := fun i hi => h.foot_lt hi
  have hpl := putB_length 2 s.size
  rw [hw0] at d0 d1 d2 d3 d4 d5 d6 d7 d8 d9 d10 d11 d12
  have HW := Lib.hid hw0.symm
  unfold S11.val S11.cells at *
  clear h hT hn hs hN hk hw0
  go_enter Tryd.func48, Tryd.ntmps48
  go_wp2_with fail
  rw [HW.out]
  refine C.out.mono ?_
  clear d0 d1 d2 d3 d4 d5 d6 d7 d8 d9 d10 d11 d12 HW
  intro e w1 st
  rcases st with ⟨h0, x, rfl, ow, b1⟩ | ⟨h0, rfl, b1⟩
  · have X1 := Lib.hid (X0.out.quiet (Only.of_below b1) (fun i hi h => by omega))
    have hrl := recB_length h0
    have sx := owns_SlIs ow
    obtain ⟨A, c, rfl, _⟩ := owns_slice ow
    rw [hrl] at sx ⊢
    have hw : IntKind.u64.wrap (s.size : Int) = (s.size : Int) := IntWalk.u64_in _ (by omega)
    have hp : putI 2 (s.size : Int) = putB 2 s.size := putI_of 2 _ (by omega) (by omega)
    have C1 := Lib.hid (put_any B g v bs 2 (s.size : Int) w1 X1.out.out (by omega) (by omega) (by omega))
    rw [hp] at C1
    have hb0 := HK.out.size
    have hb1 := b1.size
    have HX := Lib.hid (fun (w2 : World) (k : Only (Foot g v) w1 w2) => sx.only k (Nat.le_refl _) (fun i hi _ hf => by have := (hft i hf).2; omega))
    rw [h0]
    clear ow b1 hp sx
    go_wp2_with fail
    refine (must_yes 0 w1).mono ?_
    rintro e w' ⟨rfl, rfl⟩
    go_wp2_with fail
    refine C1.out.mono ?_
    intro e w2 st
    obtain ⟨v2, rfl, x2⟩ := X1.out.step st
    obtain ⟨_, _, _, o2, _⟩ := st
    have C2 := Lib.hid (outraw_any B g v2 _ (bs ++ putB 2 s.size) (recB s) _ _ w2 x2.out (HX.out _ (by assumption)) (by simp only [List.length_append]; omega))
    have X2 := Lib.hid x2
    clear C1 x2 X1 HX o2
    go_wp2_with fail
    refine C2.out.mono ?_
    intro e w3 st
    obtain ⟨v3, rfl, x3⟩ := X2.out.step st
    have R : Hid (PutStep w B g v bs (wrongL s.texts) (putB 2 s.size ++ recB s) (.returned (.tuple #[])) w3) := .inl ⟨h0, by rw [← List.append_assoc]; exact x3.fin HK.out⟩
    clear C2 X2 x3 st
    go_wp2
    go_end0
    exact R.out
  · have R : Hid (PutStep w B g v bs (wrongL s.texts) (putB 2 s.size ++ recB s) (.panicked [{ v := .iface 36 (.int .i64 (wrongL s.texts)), recovered := false }]) w1) :=
      .inr ⟨h0, rfl, (HK.out.mono (fun _ _ h => h.elim)).trans (Only.of_below b1) (fun i hi h => by have := HK.out.size; omega)⟩
    have hzb : (wrongL s.texts == 0) = false := by simpa using h0
    clear b1 C X0 HK
    go_wp2_with fail
    refine (must_no (wrongL s.texts) w1).mono ?_
    rintro e w' ⟨rfl, rfl⟩
    go_wp2
    exact ⟨rfl, R.out⟩

theorem Tryd.enterPutText : ∀ args w, (callFunc 43 args).run Tryd.prog w = .ok (.enter 43 args) w := enters_of Tryd.func43 (by kernel_rfl) rfl
theorem Tryd.enterPutQid : ∀ args w, (callFunc 45 args).run Tryd.prog w = .ok (.enter 45 args) w := enters_of Tryd.func45 (by kernel_rfl) rfl

/-- At the loop's head: so many are added. -/
def ListInv (w : World) (B g : Nat) (v : Value) (bs : List UInt8) (wr : World) : Prop := ∃ v1, Chain w B g v bs wr v1
theorem textsB_len (L : List (List UInt8)) (n : Nat) (h : L.length ≤ n) : (textsB L).length ≤ 72 * n := Nat.le_trans (textsB_le L) (Nat.mul_le_mul_left _ h)

set_option maxHeartbeats 2000000 in
theorem putlists_any (B g : Nat) (v x : Value) (bs : List UInt8) (L : List (List UInt8)) (lo hi : Nat) (w : World) (h : OutAt w B g v bs) (hT : Tabs w) (hB : 1 < B ∧ 2 < B) (hx : StrsAt w lo hi x L) (hhi : hi ≤ B)
    (hL : ∀ l ∈ L, l.length ≤ 1000) (hl : L.length ≤ 1000) (hb : bs.length ≤ 500000) :
    Calls Tryd.prog 44 #[.pointer (some ⟨g, 0, none⟩), x, .func (.func 43) #[] #[]] w (PutStep w B g v bs (fErr (.texts L)) (fB (.texts L))) := by
  have hft : ∀ i, Foot g v i → B ≤ i ∧ i < w.heap.size := fun i hi => h.foot_lt hi
  have hBw : B ≤ w.heap.size := by have := hft g (.inl rfl); omega
  have HX := Lib.hid (fun (w1 : World) (bs : List UInt8) (v1 : Value) (c : Chain w B g v bs w1 v1) => hx.keep (c.only.keeps (by omega) (fun i _ hi hf => by have := (hft i hf).1; omega)))
  have HT := Lib.hid (fun (w1 : World) (bs : List UInt8) (v1 : Value) (c : Chain w B g v bs w1 v1) => hT.only c.only (fun h => by have := (hft _ h).1; omega) (fun h => by have := (hft _ h).1; omega))
  have C := Lib.hid (put_any B g v bs 2 (L.length : Int) w h (by omega) (by omega) (by omega))
  have hp : putI 2 (L.length : Int) = putB 2 L.length := putI_of 2 _ (by omega) (by omega)
  rw [hp] at C
  have hpl := putB_length 2 L.length
  obtain ⟨A, c, hxe, _⟩ := id hx
  have X0 := Lib.hid (Chain.start h)
  have eg := Tryd.enterPutText
  clear h hft hx hp hT
  simp only [fErr, fB]
  by_cases hz : 16 < L.length
  · have hd : decide ((L.length : Int) ≤ 16) = false := decide_eq_false (by omega)
    have R : Hid (PutStep w B g v bs 3 (putB 2 L.length ++ textsB L) (.panicked [{ v := .iface 36 (.int .i64 3), recovered := false }]) w) := .inr ⟨by decide, rfl, Only.refl _ _⟩
    rw [if_pos hz, hxe]
    clear C HX X0 hpl HT
    go_enter Tryd.func44, Tryd.ntmps44
    go_wp2_with fail
    refine (must_no 3 w).mono ?_
    rintro e w' ⟨rfl, rfl⟩
    go_wp2
    exact ⟨rfl, R.out⟩
  · have hd : decide ((L.length : Int) ≤ 16) = true := decide_eq_true (by omega)
    have hw : IntKind.u64.wrap (L.length : Int) = (L.length : Int) := IntWalk.u64_in _ (by omega)
    rw [if_neg hz]
    have hl16 : L.length ≤ 16 := by omega
    rw [hxe] at HX ⊢
    have HL := Lib.hid hL
    clear hxe hL
    go_enter Tryd.func44, Tryd.ntmps44
    go_wp2_with fail
    refine (must_yes 3 w).mono ?_
    rintro e w' ⟨rfl, rfl⟩
    go_wp2_with fail
    refine C.out.mono ?_
    intro e w1 st
    obtain ⟨v1, rfl, x1⟩ := X0.out.step st
    have I0 : Hid (wrongL (L.take 0) = 0 ∧ ListInv w B g v (bs ++ putB 2 L.length ++ textsB (L.take 0)) w1) := ⟨rfl, v1, by simpa [textsB] using x1⟩
    clear C st x1 X0
    go_wp2_with fail
    go_loopw [19] (fun i wr => ∃ j : Nat, j ≤ L.length ∧ i = .int .i64 j ∧ Hid (wrongL (L.take j) = 0 ∧ ListInv w B g v (bs ++ putB 2 L.length ++ textsB (L.take j)) wr)) (fun i _ => L.length - (intOf i).toNat)
    case atStart => exact ⟨0, Nat.zero_le _, rfl, I0⟩
    case round =>
      obtain ⟨j, hj, rfl, hrel⟩ := hrel
      clear I0
      obtain ⟨h0, v2, hC⟩ := hrel.out
      by_cases hlt : j < L.length
      · obtain ⟨A', c', hAe, _, _, hcs⟩ := HX.out _ _ _ hC
        injection hAe with hA hn hc
        subst hA hc
        obtain ⟨ad, rfl, hb1, hb2, hcl⟩ := hcs (by omega)
        have hcell := hcl j hlt
        have i0 : (0 : Int) ≤ (j : Int) := by omega
        have i1 : (j : Int) < (L.length : Int) := by omega
        have hle := textsB_len (L.take j) 16 (by rw [List.length_take]; omega)
        have hlj := HL.out (L[j]'hlt) (List.getElem_mem hlt)
        have C := Lib.hid (puttext_any B g v2 (bs ++ putB 2 L.length ++ textsB (L.take j)) (L[j]'hlt) wr hC.out (HT.out _ _ _ hC) hlj (by simp only [List.length_append]; omega))
        have h2 := wrongL_succ L j hlt h0
        have h3 := wrongL_stop L j hlt h0
        have h4 := textsB_succ L j hlt
        obtain ⟨t, ht⟩ : ∃ t, t = L[j]'hlt := ⟨_, rfl⟩
        rw [← ht] at C hcell h2 h3 h4
        have fin : Hid (∀ e w2, PutStep wr B g v2 (bs ++ putB 2 L.length ++ textsB (L.take j)) (wrongOf t) (textB t) e w2 →
            (e = .returned (.tuple #[]) ∧ wrongL (L.take (j + 1)) = 0 ∧ ListInv w B g v (bs ++ putB 2 L.length ++ textsB (L.take (j + 1))) w2) ∨
            (e = .panicked [{ v := .iface 36 (.int .i64 (wrongOf t)), recovered := false }] ∧ PutStep w B g v bs (wrongL L) (putB 2 L.length ++ textsB L) e w2)) := by
          rintro e w2 (⟨hz, st⟩ | ⟨hz, he, k⟩)
          · obtain ⟨v3, he, x3⟩ := hC.step st
            exact .inl ⟨he, by rw [h2]; exact hz, v3, by rw [h4, ← List.append_assoc]; exact x3⟩
          · refine .inr ⟨he, .inr ⟨by rw [h3 hz]; exact hz, by rw [h3 hz]; exact he, hC.only.trans k ?_⟩⟩
            intro i hi hf
            rcases hf with hf | hf
            · exact .inl hf
            · rcases hC.own i hf with h | h
              · exact .inr h
              · omega
        clear hC h0 hrel hle hlj h2 h3 h4 ht hcs hcl hb1 hb2
        go_wp2_with fail
        go_at_fn 43
        refine C.out.mono ?_
        intro e w2 hst
        rcases fin.out e w2 hst with ⟨rfl, hR⟩ | ⟨rfl, hR⟩
        · have R := Lib.hid hR
          clear hst fin C hcell hR
          go_wp2
          go_roundw
          case rel => exact ⟨j + 1, by omega, by go_num, R⟩
          case measure => simp [intOf]; omega
        · have R := Lib.hid hR
          clear hst fin C hcell hR
          go_wp2
          exact ⟨rfl, R.out⟩
      · have hj4 : j = L.length := by omega
        subst hj4
        rw [List.take_length] at h0 hC
        have R : Hid (PutStep w B g v bs (wrongL L) (putB 2 L.length ++ textsB L) (.returned (.tuple #[])) wr) := by
          rw [h0]
          exact .inl ⟨rfl, by rw [← List.append_assoc]; exact hC.fin (Only.refl _ _)⟩
        clear hC h0 hrel
        go_wp2
        go_end0
        exact R.out
end Go.Proofs.YtepiifbleoimkaaDoor
