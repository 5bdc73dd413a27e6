/-
  Package msg: take: whatever field is there.
-/
import Derived.Test.YtepiifbleoimkaaDoorMsgH
namespace Go.Proofs.YtepiifbleoimkaaDoor
open Go.RowKit
set_option maxRecDepth 100000

def K.size : K → Nat
  | .qid => 3
  | .stat => 13
  | _ => 1
/-- What take leaves: the field at its place in the message, nothing else of it turned. -/
def TkF (w : World) (lo g mb off : Nat) (k : K) (bs : List UInt8) (er : Int) (cs : Array Value) (e : Ending) (w' : World) : Prop :=
  (e = .panicked [{ v := .iface 36 (.int .i64 2), recovered := false }] ∧ Only (fun i => i = g ∨ i = mb) w w' ∧ tkE k bs er = none) ∨
  (∃ f cs' bs' er', e = .returned (.tuple #[]) ∧ f.kind = k ∧ Has w' mb 33 cs' ∧ cs'.size = cs.size ∧ FAt w' w.heap.size w'.heap.size cs' off f ∧ (∀ i, i < off ∨ off + k.size ≤ i → cs'[i]? = cs[i]?) ∧
    InAt w' lo g bs' er' ∧ Only (fun i => i = g ∨ i = mb) w w' ∧ bs'.length ≤ bs.length ∧ (er' = 0 → tkE k bs er = some (f, bs')) ∧ (er' ≠ 0 → tkE k bs er = none))
theorem set_in {cs : Array Value} {off : Nat} (h : off < cs.size) (v : Value) : (cs.setIfInBounds off v)[off]? = some v := by simp [h]
theorem set_out {cs : Array Value} {off i : Nat} (h : i ≠ off) (v : Value) : (cs.setIfInBounds off v)[i]? = cs[i]? := Array.getElem?_setIfInBounds_ne (by omega)
/-- A field of one cell is stored. -/
theorem TkF.one {w w1 : World} {lo g mb off : Nat} {k : K} {bs bs' : List UInt8} {er er' : Int} {cs : Array Value} {f : F} {v : Value} (hk : k.size = 1) (hf : f.kind = k) (hm : Has w1 mb 33 cs) (ho : off < cs.size)
    (hfa : ∀ cs', cs'[off]? = some v → FAt (w1.setCell ⟨mb, off, none⟩ v) w.heap.size w1.heap.size cs' off f) (hI : InAt w1 lo g bs' er') (hg : g < mb) (hk1 : Only (fun i => i = g) w w1) (hl : bs'.length ≤ bs.length)
    (hy : er' = 0 → tkE k bs er = some (f, bs')) (hn : er' ≠ 0 → tkE k bs er = none) : TkF w lo g mb off k bs er cs (.returned (.tuple #[])) (w1.setCell ⟨mb, off, none⟩ v) := by
  have hs : (w1.setCell ⟨mb, off, none⟩ v).heap.size = w1.heap.size := by simp [World.setCell]
  refine .inr ⟨f, cs.setIfInBounds off v, bs', er', rfl, hf, hm.set off v, by simp, ?_, fun i hi => set_out (by omega) v, ?_, ?_, hl, hy, hn⟩
  · rw [hs]
    exact hfa _ (set_in ho v)
  · exact hI.only ((Only.refl (fun i => i = mb) w1).setCell (p := ⟨mb, off, none⟩) (fun _ => rfl) v) (fun i _ hi h => by omega)
  · exact (hk1.mono (T := fun i => i = g ∨ i = mb) (fun _ _ h => .inl h)).setCell (p := ⟨mb, off, none⟩) (fun _ => .inr rfl) v
theorem TkF.pan {w w1 : World} {lo g mb off : Nat} {k : K} {bs : List UInt8} {er : Int} {cs : Array Value} (hk1 : Only (fun i => i = g) w w1) (hn : tkE k bs er = none) :
    TkF w lo g mb off k bs er cs (.panicked [{ v := .iface 36 (.int .i64 2), recovered := false }]) w1 := .inl ⟨rfl, hk1.mono (fun _ _ h => .inl h), hn⟩
theorem has_at {w : World} {mb off : Nat} {cs : Array Value} (h : Has w mb 33 cs) (ho : off < cs.size) : w.cell? ⟨mb, off, none⟩ = some cs[off] ∧ w.frozen? ⟨mb, off, none⟩ = false := ⟨by rw [h.cell off]; simp [ho], h.frozen off⟩

/-- A number that is taken. -/
theorem num_yes {n : Nat} {bs : List UInt8} {er : Int} (h : (takeSt (n : Int) bs er).2.2 = 0) : tkE (.num n) bs er = some (.num n (takeSt (n : Int) bs er).1, (takeSt (n : Int) bs er).2.1) := by
  obtain ⟨a, b⟩ := tkN_of h
  rw [tkE, if_pos a, tkF, b]
  rfl
theorem num_no {n : Nat} {bs : List UInt8} {er : Int} (h : (takeSt (n : Int) bs er).2.2 ≠ 0) : tkE (.num n) bs er = none := by
  unfold tkE
  split
  · rename_i h0
    rw [h0] at h
    rw [tkF, tkN_none h]
    rfl
  · rfl
theorem qid_yes {bs : List UInt8} {er : Int} (h : (qTake bs er).2.2 = 0) : tkE .qid bs er = some (.qid (qTake bs er).1, (qTake bs er).2.1) := by
  have h0 : er = 0 := Decidable.byContradiction fun hn => qTake_bad hn h
  subst h0
  rw [tkE, if_pos rfl, tkF, tkQ, if_pos h]
  rfl
theorem qid_no {bs : List UInt8} {er : Int} (h : (qTake bs er).2.2 ≠ 0) : tkE .qid bs er = none := by
  unfold tkE
  split
  · rename_i h0
    rw [h0] at h
    rw [tkF, tkQ, if_neg h]
    rfl
  · rfl

set_option maxHeartbeats 1000000 in
theorem take_u8 (lo g mb off : Nat) (bs : List UInt8) (er : Int) (cs : Array Value) (w : World) (hI : InAt w lo g bs er) (hm : Has w mb 33 cs) (hg : g < mb) (ho : off < cs.size) :
    Calls Tryd.prog 55 #[.pointer (some ⟨g, 0, none⟩), .iface 88 (.pointer (some ⟨mb, off, none⟩))] w (TkF w lo g mb off (.num 1) bs er cs) := by
  have C := Lib.hid (take_any lo g 1 bs er w hI)
  have hlt := takeSt_lt 1 bs er
  have hln := takeSt_len 1 bs er
  have hy := @num_yes 1 bs er
  have hn := @num_no 1 bs er
  have HM := Lib.hid hm
  have a0 := Tryd.as_u8_u8 ⟨mb, off, none⟩
  obtain ⟨st, hst⟩ : ∃ s, s = takeSt 1 bs er := ⟨_, rfl⟩
  rw [show takeSt ((1 : Nat) : Int) bs er = st from hst.symm] at hlt hy hn
  rw [← hst] at C hln
  obtain ⟨x, r, e1⟩ := st
  simp only at C hlt hy hn hln
  have hw : IntKind.u8.wrap (x : Int) = (x : Int) := IntWalk.u8_in _ (by omega)
  clear hI hm hst
  go_enter Tryd.func55, Tryd.ntmps55
  go_wp2_with fail
  refine C.out.mono ?_
  rintro e w1 ⟨rfl, i1, k1⟩
  have m1 := HM.out.only k1 (by omega)
  obtain ⟨c0, f0⟩ := has_at m1 ho
  have R : Hid (TkF w lo g mb off (.num 1) bs er cs (.returned (.tuple #[])) (w1.setCell ⟨mb, off, none⟩ (.int .u8 (x : Int)))) := TkF.one (f := .num 1 x) rfl rfl m1 ho (fun cs' h => h) i1 hg k1 hln hy hn
  generalize cs[off] = old at c0
  clear C i1 k1 m1 HM hy hn
  go_wp2
  go_end0
  exact R.out

set_option maxHeartbeats 1000000 in
theorem take_u16 (lo g mb off : Nat) (bs : List UInt8) (er : Int) (cs : Array Value) (w : World) (hI : InAt w lo g bs er) (hm : Has w mb 33 cs) (hg : g < mb) (ho : off < cs.size) :
    Calls Tryd.prog 55 #[.pointer (some ⟨g, 0, none⟩), .iface 85 (.pointer (some ⟨mb, off, none⟩))] w (TkF w lo g mb off (.num 2) bs er cs) := by
  have C := Lib.hid (take_any lo g 2 bs er w hI)
  have hlt := takeSt_lt 2 bs er
  have hln := takeSt_len 2 bs er
  have hy := @num_yes 2 bs er
  have hn := @num_no 2 bs er
  have HM := Lib.hid hm
  have a0 := Tryd.as_u16_u8 ⟨mb, off, none⟩
  have a1 := Tryd.as_u16_u16 ⟨mb, off, none⟩
  obtain ⟨st, hst⟩ : ∃ s, s = takeSt 2 bs er := ⟨_, rfl⟩
  rw [show takeSt ((2 : Nat) : Int) bs er = st from hst.symm] at hlt hy hn
  rw [← hst] at C hln
  obtain ⟨x, r, e1⟩ := st
  simp only at C hlt hy hn hln
  have hw : IntKind.u16.wrap (x : Int) = (x : Int) := IntWalk.u16_in _ (by omega)
  clear hI hm hst
  go_enter Tryd.func55, Tryd.ntmps55
  go_wp2_with fail
  refine C.out.mono ?_
  rintro e w1 ⟨rfl, i1, k1⟩
  have m1 := HM.out.only k1 (by omega)
  obtain ⟨c0, f0⟩ := has_at m1 ho
  have R : Hid (TkF w lo g mb off (.num 2) bs er cs (.returned (.tuple #[])) (w1.setCell ⟨mb, off, none⟩ (.int .u16 (x : Int)))) := TkF.one (f := .num 2 x) rfl rfl m1 ho (fun cs' h => h) i1 hg k1 hln hy hn
  generalize cs[off] = old at c0
  clear C i1 k1 m1 HM hy hn
  go_wp2
  go_end0
  exact R.out

set_option maxHeartbeats 1000000 in
theorem take_u32 (lo g mb off : Nat) (bs : List UInt8) (er : Int) (cs : Array Value) (w : World) (hI : InAt w lo g bs er) (hm : Has w mb 33 cs) (hg : g < mb) (ho : off < cs.size) :
    Calls Tryd.prog 55 #[.pointer (some ⟨g, 0, none⟩), .iface 82 (.pointer (some ⟨mb, off, none⟩))] w (TkF w lo g mb off (.num 4) bs er cs) := by
  have C := Lib.hid (take_any lo g 4 bs er w hI)
  have hlt := takeSt_lt 4 bs er
  have hln := takeSt_len 4 bs er
  have hy := @num_yes 4 bs er
  have hn := @num_no 4 bs er
  have HM := Lib.hid hm
  have a0 := Tryd.as_u32_u8 ⟨mb, off, none⟩
  have a1 := Tryd.as_u32_u16 ⟨mb, off, none⟩
  have a2 := Tryd.as_u32_u32 ⟨mb, off, none⟩
  obtain ⟨st, hst⟩ : ∃ s, s = takeSt 4 bs er := ⟨_, rfl⟩
  rw [show takeSt ((4 : Nat) : Int) bs er = st from hst.symm] at hlt hy hn
  rw [← hst] at C hln
  obtain ⟨x, r, e1⟩ := st
  simp only at C hlt hy hn hln
  have hw : IntKind.u32.wrap (x : Int) = (x : Int) := IntWalk.u32_in _ (by omega)
  clear hI hm hst
  go_enter Tryd.func55, Tryd.ntmps55
  go_wp2_with fail
  refine C.out.mono ?_
  rintro e w1 ⟨rfl, i1, k1⟩
  have m1 := HM.out.only k1 (by omega)
  obtain ⟨c0, f0⟩ := has_at m1 ho
  have R : Hid (TkF w lo g mb off (.num 4) bs er cs (.returned (.tuple #[])) (w1.setCell ⟨mb, off, none⟩ (.int .u32 (x : Int)))) := TkF.one (f := .num 4 x) rfl rfl m1 ho (fun cs' h => h) i1 hg k1 hln hy hn
  generalize cs[off] = old at c0
  clear C i1 k1 m1 HM hy hn
  go_wp2
  go_end0
  exact R.out

set_option maxHeartbeats 1000000 in
theorem take_u64 (lo g mb off : Nat) (bs : List UInt8) (er : Int) (cs : Array Value) (w : World) (hI : InAt w lo g bs er) (hm : Has w mb 33 cs) (hg : g < mb) (ho : off < cs.size) :
    Calls Tryd.prog 55 #[.pointer (some ⟨g, 0, none⟩), .iface 89 (.pointer (some ⟨mb, off, none⟩))] w (TkF w lo g mb off (.num 8) bs er cs) := by
  have C := Lib.hid (take_any lo g 8 bs er w hI)
  have hlt := takeSt_lt 8 bs er
  have hln := takeSt_len 8 bs er
  have hy := @num_yes 8 bs er
  have hn := @num_no 8 bs er
  have HM := Lib.hid hm
  have a0 := Tryd.as_u64_u8 ⟨mb, off, none⟩
  have a1 := Tryd.as_u64_u16 ⟨mb, off, none⟩
  have a2 := Tryd.as_u64_u32 ⟨mb, off, none⟩
  have a3 := Tryd.as_u64_u64 ⟨mb, off, none⟩
  obtain ⟨st, hst⟩ : ∃ s, s = takeSt 8 bs er := ⟨_, rfl⟩
  rw [show takeSt ((8 : Nat) : Int) bs er = st from hst.symm] at hlt hy hn
  rw [← hst] at C hln
  obtain ⟨x, r, e1⟩ := st
  simp only at C hlt hy hn hln
  clear hI hm hst
  go_enter Tryd.func55, Tryd.ntmps55
  go_wp2_with fail
  refine C.out.mono ?_
  rintro e w1 ⟨rfl, i1, k1⟩
  have m1 := HM.out.only k1 (by omega)
  obtain ⟨c0, f0⟩ := has_at m1 ho
  have R : Hid (TkF w lo g mb off (.num 8) bs er cs (.returned (.tuple #[])) (w1.setCell ⟨mb, off, none⟩ (.int .u64 (x : Int)))) := TkF.one (f := .num 8 x) rfl rfl m1 ho (fun cs' h => h) i1 hg k1 hln hy hn
  generalize cs[off] = old at c0
  clear C i1 k1 m1 HM hy hn
  go_wp2
  go_end0
  exact R.out

set_option maxHeartbeats 1000000 in
theorem take_text (lo g mb off : Nat) (bs : List UInt8) (er : Int) (cs : Array Value) (w : World) (hI : InAt w lo g bs er) (hm : Has w mb 33 cs) (hT : Tabs w) (hgt : 1 < g ∧ 2 < g) (hb : bs.length ≤ 100000) (hg : g < mb) (ho : off < cs.size) :
    Calls Tryd.prog 55 #[.pointer (some ⟨g, 0, none⟩), .iface 83 (.pointer (some ⟨mb, off, none⟩))] w (TkF w lo g mb off .text bs er cs) := by
  have C := Lib.hid (tktext_any lo g bs er w hI hT (by omega) (by omega) hb)
  have HM := Lib.hid hm
  have a0 := Tryd.as_text_u8 ⟨mb, off, none⟩
  have a1 := Tryd.as_text_u16 ⟨mb, off, none⟩
  have a2 := Tryd.as_text_u32 ⟨mb, off, none⟩
  have a3 := Tryd.as_text_u64 ⟨mb, off, none⟩
  have a4 := Tryd.as_text_text ⟨mb, off, none⟩
  clear hI hm
  go_enter Tryd.func55, Tryd.ntmps55
  go_wp2_with fail
  refine C.out.mono ?_
  intro e w1 st
  rcases st with ⟨rfl, k1, hn⟩ | ⟨f, v, r, e1, rfl, hf, hv, i1, k1, hln, hy, hn⟩
  · have R : Hid (TkF w lo g mb off .text bs er cs (.panicked [{ v := .iface 36 (.int .i64 2), recovered := false }]) w1) := TkF.pan k1 hn
    clear C k1 hn HM
    go_wp2
    exact ⟨rfl, R.out⟩
  · have m1 := HM.out.only k1 (by omega)
    obtain ⟨c0, f0⟩ := has_at m1 ho
    have hmlt := HM.out.lt
    cases f with
    | text L =>
      have R : Hid (TkF w lo g mb off .text bs er cs (.returned (.tuple #[])) (w1.setCell ⟨mb, off, none⟩ v)) := TkF.one (f := .text L) rfl rfl m1 ho (fun cs' h => by rw [show v = _ from hv] at h; exact h) i1 hg k1 hln hy hn
      have hv2 : v = .string (strOf L) := hv
      subst hv2
      generalize cs[off] = old at c0
      clear C i1 k1 m1 HM hy hn hv
      go_wp2
      go_end0
      exact R.out
    | _ => cases hf

set_option maxHeartbeats 1000000 in
theorem take_texts (lo g mb off : Nat) (bs : List UInt8) (er : Int) (cs : Array Value) (w : World) (hI : InAt w lo g bs er) (hm : Has w mb 33 cs) (hT : Tabs w) (hgt : 1 < g ∧ 2 < g) (hb : bs.length ≤ 100000) (hg : g < mb) (ho : off < cs.size) :
    Calls Tryd.prog 55 #[.pointer (some ⟨g, 0, none⟩), .iface 86 (.pointer (some ⟨mb, off, none⟩))] w (TkF w lo g mb off .texts bs er cs) := by
  have C := Lib.hid (tklists_any lo g bs er w hI hT hgt hb)
  have HM := Lib.hid hm
  have a0 := Tryd.as_texts_u8 ⟨mb, off, none⟩
  have a1 := Tryd.as_texts_u16 ⟨mb, off, none⟩
  have a2 := Tryd.as_texts_u32 ⟨mb, off, none⟩
  have a3 := Tryd.as_texts_u64 ⟨mb, off, none⟩
  have a4 := Tryd.as_texts_text ⟨mb, off, none⟩
  have a5 := Tryd.as_texts_texts ⟨mb, off, none⟩
  clear hI hm
  go_enter Tryd.func55, Tryd.ntmps55
  go_wp2_with fail
  refine C.out.mono ?_
  intro e w1 st
  rcases st with ⟨rfl, k1, hn⟩ | ⟨f, v, r, e1, rfl, hf, hv, i1, k1, hln, hy, hn⟩
  · have R : Hid (TkF w lo g mb off .texts bs er cs (.panicked [{ v := .iface 36 (.int .i64 2), recovered := false }]) w1) := TkF.pan k1 hn
    clear C k1 hn HM
    go_wp2
    exact ⟨rfl, R.out⟩
  · have m1 := HM.out.only k1 (by omega)
    obtain ⟨c0, f0⟩ := has_at m1 ho
    have hmlt := HM.out.lt
    cases f with
    | texts L =>
      have R : Hid (TkF w lo g mb off .texts bs er cs (.returned (.tuple #[])) (w1.setCell ⟨mb, off, none⟩ v)) := TkF.one (f := .texts L) rfl rfl m1 ho (fun cs' h => ⟨v, h, hv.keep (((Only.refl (fun i => i = mb) w1).setCell (p := ⟨mb, off, none⟩) (fun _ => rfl) v).keeps (Nat.le_refl _) (fun i hi _ h => by omega))⟩) i1 hg k1 hln hy hn
      obtain ⟨A, c, rfl, _⟩ := hv
      generalize cs[off] = old at c0
      clear C i1 k1 m1 HM hy hn
      go_wp2
      go_end0
      exact R.out
    | _ => cases hf

theorem qset_get {cs : Array Value} {off : Nat} (h : off + 3 ≤ cs.size) (a b c : Value) : (((cs.setIfInBounds off a).setIfInBounds (off + 1) b).setIfInBounds (off + 2) c)[off]? = some a ∧
    (((cs.setIfInBounds off a).setIfInBounds (off + 1) b).setIfInBounds (off + 2) c)[off + 1]? = some b ∧ (((cs.setIfInBounds off a).setIfInBounds (off + 1) b).setIfInBounds (off + 2) c)[off + 2]? = some c := by
  refine ⟨?_, ?_, ?_⟩ <;> simp [Array.getElem?_setIfInBounds] <;> omega
set_option maxHeartbeats 1000000 in
theorem take_qid (lo g mb off : Nat) (bs : List UInt8) (er : Int) (cs : Array Value) (w : World) (hI : InAt w lo g bs er) (hm : Has w mb 33 cs) (hg : g < mb) (ho : off + 3 ≤ cs.size) :
    Calls Tryd.prog 55 #[.pointer (some ⟨g, 0, none⟩), .iface 84 (.pointer (some ⟨mb, off, none⟩))] w (TkF w lo g mb off .qid bs er cs) := by
  have C := qidtake_any lo g bs er w hI
  unfold QTakeStep at C
  have hln := qTake_len bs er
  have hy := @qid_yes bs er
  have hn := @qid_no bs er
  have HM := Lib.hid hm
  have a0 := Tryd.as_qid_u8 ⟨mb, off, none⟩
  have a1 := Tryd.as_qid_u16 ⟨mb, off, none⟩
  have a2 := Tryd.as_qid_u32 ⟨mb, off, none⟩
  have a3 := Tryd.as_qid_u64 ⟨mb, off, none⟩
  have a4 := Tryd.as_qid_text ⟨mb, off, none⟩
  have a5 := Tryd.as_qid_texts ⟨mb, off, none⟩
  have a6 := Tryd.as_qid_qid ⟨mb, off, none⟩
  generalize qTake bs er = st at C hln hy hn
  obtain ⟨q, r, e1⟩ := st
  simp only at C hln hy hn
  unfold Q3.val at C
  have C := Lib.hid C
  clear hI hm
  go_enter Tryd.func55, Tryd.ntmps55
  go_wp2_with fail
  refine C.out.mono ?_
  rintro e w1 ⟨rfl, i1, k1⟩
  have m1 := HM.out.only k1 (by omega)
  obtain ⟨c0, f0⟩ := has_at m1 (off := off) (by omega)
  obtain ⟨c1, f1⟩ := has_at m1 (off := off + 1) (by omega)
  obtain ⟨c2, f2⟩ := has_at m1 (off := off + 2) (by omega)
  have R : Hid (TkF w lo g mb off .qid bs er cs (.returned (.tuple #[])) (((w1.setCell ⟨mb, off, none⟩ (.int .u8 (q.t : Int))).setCell ⟨mb, off + 1, none⟩ (.int .u32 (q.v : Int))).setCell ⟨mb, off + 2, none⟩ (.int .u64 (q.p : Int)))) := by
    refine .inr ⟨.qid q, _, r, e1, rfl, rfl, ((m1.set off _).set (off + 1) _).set (off + 2) _, by simp, qset_get ho _ _ _, ?_, ?_, ?_, hln, hy, hn⟩
    · intro i hi
      rw [show K.size .qid = 3 from rfl] at hi
      rw [set_out (by omega), set_out (by omega), set_out (by omega)]
    · exact i1.only ((((Only.refl (fun i => i = mb) w1).setCell (p := ⟨mb, off, none⟩) (fun _ => rfl) _).setCell (p := ⟨mb, off + 1, none⟩) (fun _ => rfl) _).setCell (p := ⟨mb, off + 2, none⟩) (fun _ => rfl) _) (fun i _ hi h => by omega)
    · exact (((k1.mono (T := fun i => i = g ∨ i = mb) (fun _ _ h => .inl h)).setCell (p := ⟨mb, off, none⟩) (fun _ => .inr rfl) _).setCell (p := ⟨mb, off + 1, none⟩) (fun _ => .inr rfl) _).setCell (p := ⟨mb, off + 2, none⟩) (fun _ => .inr rfl) _
  generalize cs[off] = o0 at c0
  generalize cs[off + 1] = o1 at c1
  generalize cs[off + 2] = o2 at c2
  clear C i1 k1 m1 HM hy hn
  go_wp2
  go_end0
  exact R.out

set_option maxHeartbeats 1000000 in
theorem take_qids (lo g mb off : Nat) (bs : List UInt8) (er : Int) (cs : Array Value) (w : World) (hI : InAt w lo g bs er) (hm : Has w mb 33 cs) (hg : g < mb) (ho : off < cs.size) :
    Calls Tryd.prog 55 #[.pointer (some ⟨g, 0, none⟩), .iface 87 (.pointer (some ⟨mb, off, none⟩))] w (TkF w lo g mb off .qids bs er cs) := by
  have C := Lib.hid (tklistq_any lo g bs er w hI)
  have HM := Lib.hid hm
  have a0 := Tryd.as_qids_u8 ⟨mb, off, none⟩
  have a1 := Tryd.as_qids_u16 ⟨mb, off, none⟩
  have a2 := Tryd.as_qids_u32 ⟨mb, off, none⟩
  have a3 := Tryd.as_qids_u64 ⟨mb, off, none⟩
  have a4 := Tryd.as_qids_text ⟨mb, off, none⟩
  have a5 := Tryd.as_qids_texts ⟨mb, off, none⟩
  have a6 := Tryd.as_qids_qid ⟨mb, off, none⟩
  have a7 := Tryd.as_qids_qids ⟨mb, off, none⟩
  clear hI hm
  go_enter Tryd.func55, Tryd.ntmps55
  go_wp2_with fail
  refine C.out.mono ?_
  intro e w1 st
  rcases st with ⟨rfl, k1, hn⟩ | ⟨f, v, r, e1, rfl, hf, hv, i1, k1, hln, hy, hn⟩
  · have R : Hid (TkF w lo g mb off .qids bs er cs (.panicked [{ v := .iface 36 (.int .i64 2), recovered := false }]) w1) := TkF.pan k1 hn
    clear C k1 hn HM
    go_wp2
    exact ⟨rfl, R.out⟩
  · have m1 := HM.out.only k1 (by omega)
    obtain ⟨c0, f0⟩ := has_at m1 ho
    have hmlt := HM.out.lt
    cases f with
    | qids L =>
      have R : Hid (TkF w lo g mb off .qids bs er cs (.returned (.tuple #[])) (w1.setCell ⟨mb, off, none⟩ v)) := TkF.one (f := .qids L) rfl rfl m1 ho (fun cs' h => ⟨v, h, hv.keep (((Only.refl (fun i => i = mb) w1).setCell (p := ⟨mb, off, none⟩) (fun _ => rfl) v).keeps (Nat.le_refl _) (fun i hi _ h => by omega))⟩) i1 hg k1 hln hy hn
      obtain ⟨A, c, rfl, _⟩ := hv
      generalize cs[off] = old at c0
      clear C i1 k1 m1 HM hy hn
      go_wp2
      go_end0
      exact R.out
    | _ => cases hf

set_option maxHeartbeats 1000000 in
theorem take_data (lo g mb off : Nat) (bs : List UInt8) (er : Int) (cs : Array Value) (w : World) (hI : InAt w lo g bs er) (hm : Has w mb 33 cs) (hb : bs.length ≤ 100000) (hg : g < mb) (ho : off < cs.size) :
    Calls Tryd.prog 55 #[.pointer (some ⟨g, 0, none⟩), .iface 90 (.pointer (some ⟨mb, off, none⟩))] w (TkF w lo g mb off .data bs er cs) := by
  have C := Lib.hid (tkdata_any lo g bs er w hI hb)
  have HM := Lib.hid hm
  have a0 := Tryd.as_data_u8 ⟨mb, off, none⟩
  have a1 := Tryd.as_data_u16 ⟨mb, off, none⟩
  have a2 := Tryd.as_data_u32 ⟨mb, off, none⟩
  have a3 := Tryd.as_data_u64 ⟨mb, off, none⟩
  have a4 := Tryd.as_data_text ⟨mb, off, none⟩
  have a5 := Tryd.as_data_texts ⟨mb, off, none⟩
  have a6 := Tryd.as_data_qid ⟨mb, off, none⟩
  have a7 := Tryd.as_data_qids ⟨mb, off, none⟩
  have a8 := Tryd.as_data_data ⟨mb, off, none⟩
  clear hI hm
  go_enter Tryd.func55, Tryd.ntmps55
  go_wp2_with fail
  refine C.out.mono ?_
  intro e w1 st
  rcases st with ⟨rfl, k1, hn⟩ | ⟨f, v, r, e1, rfl, hf, hv, i1, k1, hln, hy, hn⟩
  · have R : Hid (TkF w lo g mb off .data bs er cs (.panicked [{ v := .iface 36 (.int .i64 2), recovered := false }]) w1) := TkF.pan k1 hn
    clear C k1 hn HM
    go_wp2
    exact ⟨rfl, R.out⟩
  · have m1 := HM.out.only k1 (by omega)
    obtain ⟨c0, f0⟩ := has_at m1 ho
    have hmlt := HM.out.lt
    cases f with
    | data L =>
      have R : Hid (TkF w lo g mb off .data bs er cs (.returned (.tuple #[])) (w1.setCell ⟨mb, off, none⟩ v)) := TkF.one (f := .data L) rfl rfl m1 ho (fun cs' h => ⟨v, h, hv.keep (((Only.refl (fun i => i = mb) w1).setCell (p := ⟨mb, off, none⟩) (fun _ => rfl) v).keeps (Nat.le_refl _) (fun i hi _ h => by omega))⟩) i1 hg k1 hln hy hn
      obtain ⟨A, c, rfl, _⟩ := hv
      generalize cs[off] = old at c0
      clear C i1 k1 m1 HM hy hn
      go_wp2
      go_end0
      exact R.out
    | _ => cases hf

/-- A record stored within a message. -/
def set13o (w : World) (mb off : Nat) (s : S11) : World := (World.setCell (World.setCell (World.setCell (World.setCell (World.setCell (World.setCell (World.setCell (World.setCell (World.setCell (World.setCell (World.setCell (World.setCell (World.setCell w ⟨mb, off, none⟩ (.int .u16 (s.k : Int))) ⟨mb, off + 1, none⟩ (.int .u32 (s.d : Int))) ⟨mb, off + 2, none⟩ (.int .u8 (s.q.t : Int))) ⟨mb, off + 3, none⟩ (.int .u32 (s.q.v : Int))) ⟨mb, off + 4, none⟩ (.int .u64 (s.q.p : Int))) ⟨mb, off + 5, none⟩ (.int .u32 (s.m : Int))) ⟨mb, off + 6, none⟩ (.int .u32 (s.a : Int))) ⟨mb, off + 7, none⟩ (.int .u32 (s.c : Int))) ⟨mb, off + 8, none⟩ (.int .u64 (s.l : Int))) ⟨mb, off + 9, none⟩ (.string (strOf s.n))) ⟨mb, off + 10, none⟩ (.string (strOf s.u))) ⟨mb, off + 11, none⟩ (.string (strOf s.g))) ⟨mb, off + 12, none⟩ (.string (strOf s.x)))
def put13 (cs : Array Value) (off : Nat) (s : S11) : Array Value := (Array.setIfInBounds (Array.setIfInBounds (Array.setIfInBounds (Array.setIfInBounds (Array.setIfInBounds (Array.setIfInBounds (Array.setIfInBounds (Array.setIfInBounds (Array.setIfInBounds (Array.setIfInBounds (Array.setIfInBounds (Array.setIfInBounds (Array.setIfInBounds cs off (.int .u16 (s.k : Int))) (off + 1) (.int .u32 (s.d : Int))) (off + 2) (.int .u8 (s.q.t : Int))) (off + 3) (.int .u32 (s.q.v : Int))) (off + 4) (.int .u64 (s.q.p : Int))) (off + 5) (.int .u32 (s.m : Int))) (off + 6) (.int .u32 (s.a : Int))) (off + 7) (.int .u32 (s.c : Int))) (off + 8) (.int .u64 (s.l : Int))) (off + 9) (.string (strOf s.n))) (off + 10) (.string (strOf s.u))) (off + 11) (.string (strOf s.g))) (off + 12) (.string (strOf s.x)))
theorem has_set13o {w : World} {mb off : Nat} {cs : Array Value} (h : Has w mb 33 cs) (s : S11) : Has (set13o w mb off s) mb 33 (put13 cs off s) := (((((((((((((h.set off _).set (off + 1) _).set (off + 2) _).set (off + 3) _).set (off + 4) _).set (off + 5) _).set (off + 6) _).set (off + 7) _).set (off + 8) _).set (off + 9) _).set (off + 10) _).set (off + 11) _).set (off + 12) _)
theorem Only.set13o {S : Nat → Prop} {a w : World} (h : Only S a w) {mb off : Nat} (hb : mb < a.heap.size → S mb) (s : S11) : Only S a (set13o w mb off s) := (((((((((((((h.setCell (p := ⟨mb, off, none⟩) hb _).setCell (p := ⟨mb, off + 1, none⟩) hb _).setCell (p := ⟨mb, off + 2, none⟩) hb _).setCell (p := ⟨mb, off + 3, none⟩) hb _).setCell (p := ⟨mb, off + 4, none⟩) hb _).setCell (p := ⟨mb, off + 5, none⟩) hb _).setCell (p := ⟨mb, off + 6, none⟩) hb _).setCell (p := ⟨mb, off + 7, none⟩) hb _).setCell (p := ⟨mb, off + 8, none⟩) hb _).setCell (p := ⟨mb, off + 9, none⟩) hb _).setCell (p := ⟨mb, off + 10, none⟩) hb _).setCell (p := ⟨mb, off + 11, none⟩) hb _).setCell (p := ⟨mb, off + 12, none⟩) hb _)
theorem put13_size (cs : Array Value) (off : Nat) (s : S11) : (put13 cs off s).size = cs.size := by simp [put13]
theorem put13_out (cs : Array Value) (off : Nat) (s : S11) (i : Nat) (h : i < off ∨ off + 13 ≤ i) : (put13 cs off s)[i]? = cs[i]? := by
  unfold put13
  rw [set_out (by omega), set_out (by omega), set_out (by omega), set_out (by omega), set_out (by omega), set_out (by omega), set_out (by omega), set_out (by omega), set_out (by omega), set_out (by omega), set_out (by omega), set_out (by omega), set_out (by omega)]
theorem put13_in (cs : Array Value) (off : Nat) (s : S11) (h : off + 13 ≤ cs.size) (j : Nat) (hj : j < 13) : (put13 cs off s)[off + j]? = s.cells[j]? := by
  unfold put13
  match j, hj with

  | 0, _ => simp only [Nat.add_zero]; rw [set_out (by omega), set_out (by omega), set_out (by omega), set_out (by omega), set_out (by omega), set_out (by omega), set_out (by omega), set_out (by omega), set_out (by omega), set_out (by omega), set_out (by omega), set_out (by omega), set_in (by omega)]; rfl
  | 1, _ => rw [set_out (by omega), set_out (by omega), set_out (by omega), set_out (by omega), set_out (by omega), set_out (by omega), set_out (by omega), set_out (by omega), set_out (by omega), set_out (by omega), set_out (by omega), set_in (by simp; omega)]; rfl
  | 2, _ => rw [set_out (by omega), set_out (by omega), set_out (by omega), set_out (by omega), set_out (by omega), set_out (by omega), set_out (by omega), set_out (by omega), set_out (by omega), set_out (by omega), set_in (by simp; omega)]; rfl
  | 3, _ => rw [set_out (by omega), set_out (by omega), set_out (by omega), set_out (by omega), set_out (by omega), set_out (by omega), set_out (by omega), set_out (by omega), set_out (by omega), set_in (by simp; omega)]; rfl
  | 4, _ => rw [set_out (by omega), set_out (by omega), set_out (by omega), set_out (by omega), set_out (by omega), set_out (by omega), set_out (by omega), set_out (by omega), set_in (by simp; omega)]; rfl
  | 5, _ => rw [set_out (by omega), set_out (by omega), set_out (by omega), set_out (by omega), set_out (by omega), set_out (by omega), set_out (by omega), set_in (by simp; omega)]; rfl
  | 6, _ => rw [set_out (by omega), set_out (by omega), set_out (by omega), set_out (by omega), set_out (by omega), set_out (by omega), set_in (by simp; omega)]; rfl
  | 7, _ => rw [set_out (by omega), set_out (by omega), set_out (by omega), set_out (by omega), set_out (by omega), set_in (by simp; omega)]; rfl
  | 8, _ => rw [set_out (by omega), set_out (by omega), set_out (by omega), set_out (by omega), set_in (by simp; omega)]; rfl
  | 9, _ => rw [set_out (by omega), set_out (by omega), set_out (by omega), set_in (by simp; omega)]; rfl
  | 10, _ => rw [set_out (by omega), set_out (by omega), set_in (by simp; omega)]; rfl
  | 11, _ => rw [set_out (by omega), set_in (by simp; omega)]; rfl
  | 12, _ => rw [set_in (by simp; omega)]; rfl
set_option maxHeartbeats 1000000 in
theorem take_stat (lo g mb off : Nat) (bs : List UInt8) (er : Int) (cs : Array Value) (w : World) (hI : InAt w lo g bs er) (hm : Has w mb 33 cs) (hT : Tabs w) (hgt : 1 < g ∧ 2 < g) (hb : bs.length ≤ 100000) (hg : g < mb) (ho : off + 13 ≤ cs.size) :
    Calls Tryd.prog 55 #[.pointer (some ⟨g, 0, none⟩), .iface 91 (.pointer (some ⟨mb, off, none⟩))] w (TkF w lo g mb off .stat bs er cs) := by
  have C := Lib.hid (tkrecord_any lo g bs er w hI hT hgt hb)
  have HM := Lib.hid hm
  have a0 := Tryd.as_stat_u8 ⟨mb, off, none⟩
  have a1 := Tryd.as_stat_u16 ⟨mb, off, none⟩
  have a2 := Tryd.as_stat_u32 ⟨mb, off, none⟩
  have a3 := Tryd.as_stat_u64 ⟨mb, off, none⟩
  have a4 := Tryd.as_stat_text ⟨mb, off, none⟩
  have a5 := Tryd.as_stat_texts ⟨mb, off, none⟩
  have a6 := Tryd.as_stat_qid ⟨mb, off, none⟩
  have a7 := Tryd.as_stat_qids ⟨mb, off, none⟩
  have a8 := Tryd.as_stat_data ⟨mb, off, none⟩
  have a9 := Tryd.as_stat_stat ⟨mb, off, none⟩
  clear hI hm
  go_enter Tryd.func55, Tryd.ntmps55
  go_wp2_with fail
  refine C.out.mono ?_
  intro e w1 st
  rcases st with ⟨rfl, k1, hn⟩ | ⟨f, v, r, e1, rfl, hf, hv, i1, k1, hln, hy, hn⟩
  · have R : Hid (TkF w lo g mb off .stat bs er cs (.panicked [{ v := .iface 36 (.int .i64 2), recovered := false }]) w1) := TkF.pan k1 hn
    clear C k1 hn HM
    go_wp2
    exact ⟨rfl, R.out⟩
  · have m1 := HM.out.only k1 (by omega)
    obtain ⟨c0, f0⟩ := has_at m1 (off := off) (by omega)
    obtain ⟨c1, f1⟩ := has_at m1 (off := off + 1) (by omega)
    obtain ⟨c2, f2⟩ := has_at m1 (off := off + 2) (by omega)
    obtain ⟨c3, f3⟩ := has_at m1 (off := off + 3) (by omega)
    obtain ⟨c4, f4⟩ := has_at m1 (off := off + 4) (by omega)
    obtain ⟨c5, f5⟩ := has_at m1 (off := off + 5) (by omega)
    obtain ⟨c6, f6⟩ := has_at m1 (off := off + 6) (by omega)
    obtain ⟨c7, f7⟩ := has_at m1 (off := off + 7) (by omega)
    obtain ⟨c8, f8⟩ := has_at m1 (off := off + 8) (by omega)
    obtain ⟨c9, f9⟩ := has_at m1 (off := off + 9) (by omega)
    obtain ⟨c10, f10⟩ := has_at m1 (off := off + 10) (by omega)
    obtain ⟨c11, f11⟩ := has_at m1 (off := off + 11) (by omega)
    obtain ⟨c12, f12⟩ := has_at m1 (off := off + 12) (by omega)
    cases f with
    | stat s =>
      have R : Hid (TkF w lo g mb off .stat bs er cs (.returned (.tuple #[])) (set13o w1 mb off s)) := by
        refine .inr ⟨.stat s, _, r, e1, rfl, rfl, has_set13o m1 s, put13_size _ _ _, put13_in cs off s ho, put13_out cs off s, ?_, ?_, hln, hy, hn⟩
        · exact i1.only ((Only.refl (fun i => i = mb) w1).set13o (fun _ => rfl) s) (fun i _ hi h => by omega)
        · exact (k1.mono (T := fun i => i = g ∨ i = mb) (fun _ _ h => .inl h)).set13o (fun _ => .inr rfl) s
      have hv2 : v = s.val := hv
      subst hv2
      generalize cs[off] = o0 at c0
      generalize cs[off + 1] = o1 at c1
      generalize cs[off + 2] = o2 at c2
      generalize cs[off + 3] = o3 at c3
      generalize cs[off + 4] = o4 at c4
      generalize cs[off + 5] = o5 at c5
      generalize cs[off + 6] = o6 at c6
      generalize cs[off + 7] = o7 at c7
      generalize cs[off + 8] = o8 at c8
      generalize cs[off + 9] = o9 at c9
      generalize cs[off + 10] = o10 at c10
      generalize cs[off + 11] = o11 at c11
      generalize cs[off + 12] = o12 at c12
      clear C i1 k1 m1 HM hy hn hv
      unfold set13o at R
      unfold S11.val S11.cells
      go_wp2
      go_end0
      exact R.out
    | _ => cases hf

theorem takef_any (lo g mb off : Nat) (k : K) (bs : List UInt8) (er : Int) (cs : Array Value) (w : World) (hI : InAt w lo g bs er) (hm : Has w mb 33 cs) (hk : k.std) (hT : Tabs w) (hgt : 1 < g ∧ 2 < g) (hb : bs.length ≤ 100000)
    (hg : g < mb) (ho : off + k.size ≤ cs.size) :
    Calls Tryd.prog 55 #[.pointer (some ⟨g, 0, none⟩), .iface k.ptr (.pointer (some ⟨mb, off, none⟩))] w (TkF w lo g mb off k bs er cs) := by
  cases k with
  | num n =>
    rcases std_num hk with rfl | rfl | rfl | rfl
    · exact take_u8 lo g mb off bs er cs w hI hm hg ho
    · exact take_u16 lo g mb off bs er cs w hI hm hg ho
    · exact take_u32 lo g mb off bs er cs w hI hm hg ho
    · exact take_u64 lo g mb off bs er cs w hI hm hg ho
  | text => exact take_text lo g mb off bs er cs w hI hm hT hgt hb hg ho
  | texts => exact take_texts lo g mb off bs er cs w hI hm hT hgt hb hg ho
  | qid => exact take_qid lo g mb off bs er cs w hI hm hg ho
  | qids => exact take_qids lo g mb off bs er cs w hI hm hg ho
  | data => exact take_data lo g mb off bs er cs w hI hm hb hg ho
  | stat => exact take_stat lo g mb off bs er cs w hI hm hT hgt hb hg ho
end Go.Proofs.YtepiifbleoimkaaDoor
