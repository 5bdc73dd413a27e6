/-
  Package msg: Encode of whatever message.
-/
import Derived.Test.YtepiifbleoimkaaDoorMsgD
namespace Go.Proofs.YtepiifbleoimkaaDoor
open Go.RowKit
set_option maxRecDepth 100000

instance (t : Nat) : Decidable (isType t) := by unfold isType; infer_instance
theorem isType_named {t : Nat} {l : List (K × Nat)} (h : namedOf t = some l) : isType t := Decidable.byContradiction fun hn => by rw [namedOf_none hn] at h; cases h
/-- What is only made anew. -/
theorem Below.onlyNew {a b : World} (h : Below a.heap.size a b) : Only (fun _ => False) a b := ⟨h.os, h.tape, h.output, h.size, fun i hi _ => h.block i hi⟩
/-- What Types name is of the kinds that there are, at most four. -/
def stdB : K × Nat → Bool
  | (.num n, o) => (n == 1 || n == 2 || n == 4 || n == 8) && decide (o < 36)
  | (_, o) => decide (o < 36)
theorem named_stdB {t : Nat} (h : isType t) : ((namedOf t).getD []).all stdB = true ∧ ((namedOf t).getD []).length ≤ 4 := by
  rcases isType_cases h with rfl | rfl | rfl | rfl | rfl | rfl | rfl | rfl | rfl | rfl | rfl | rfl | rfl | rfl | rfl | rfl | rfl | rfl | rfl | rfl | rfl | rfl | rfl | rfl | rfl | rfl | rfl <;> exact ⟨rfl, by decide⟩
theorem std_of {p : K × Nat} (h : stdB p = true) : p.1.std ∧ p.1.Ok ∧ p.2 < 36 := by
  obtain ⟨k, o⟩ := p
  cases k with
  | num n =>
    simp [stdB] at h
    refine ⟨?_, ?_, h.2⟩
    · show n = 1 ∨ n = 2 ∨ n = 4 ∨ n = 8
      omega
    · show 1 ≤ n ∧ n ≤ 8
      omega
  | _ => exact ⟨trivial, trivial, by simpa [stdB] using h⟩
theorem named_std {t : Nat} {l : List (K × Nat)} (h : namedOf t = some l) : (∀ p ∈ l, p.1.std ∧ p.1.Ok ∧ p.2 < 36) ∧ l.length ≤ 4 := by
  have := named_stdB (isType_named h)
  rw [h] at this
  exact ⟨fun p hp => std_of (List.all_eq_true.1 this.1 p hp), this.2⟩

/-- The fields fs lie at the places of l. -/
def FsAt (w : World) (lo hi : Nat) (cs : Array Value) (l : List (K × Nat)) (fs : List F) : Prop :=
  fs.length = l.length ∧ ∀ j (h1 : j < l.length) (h2 : j < fs.length), fs[j].kind = l[j].1 ∧ FAt w lo hi cs l[j].2 fs[j] ∧ fs[j].Ok ∧ fs[j].Few
theorem FsAt.keep {w w' : World} {lo hi : Nat} {cs : Array Value} {l : List (K × Nat)} {fs : List F} (h : FsAt w lo hi cs l fs) (hk : ∀ p : Addr, lo ≤ p.block → p.block < hi → w'.cell? p = w.cell? p) : FsAt w' lo hi cs l fs :=
  ⟨h.1, fun j h1 h2 => by obtain ⟨a, b, c, d⟩ := h.2 j h1 h2; exact ⟨a, b.keep hk, c, d⟩⟩
theorem fBL_succ (fs : List F) (j : Nat) (h : j < fs.length) : fBL (fs.take (j + 1)) = fBL (fs.take j) ++ fB fs[j] := by
  unfold fBL
  rw [List.take_succ_eq_append_getElem h, List.flatMap_append]
  simp
theorem fErrL_append (L M : List F) (h : fErrL L = 0) : fErrL (L ++ M) = fErrL M := by
  induction L with
  | nil => rfl
  | cons f L ih =>
    obtain ⟨h1, h2⟩ := fErrL_cons h
    rw [List.cons_append, fErrL, if_pos h1, ih h2]
theorem fErrL_succ (L : List F) (j : Nat) (h : j < L.length) (h0 : fErrL (L.take j) = 0) : fErrL (L.take (j + 1)) = fErr L[j] := by
  rw [List.take_succ_eq_append_getElem h, fErrL_append _ _ h0, fErrL, fErrL]
  split
  · rename_i h
    exact h.symm
  · rfl
theorem fErrL_stop (L : List F) (j : Nat) (h : j < L.length) (h0 : fErrL (L.take j) = 0) (h1 : fErr L[j] ≠ 0) : fErrL L = fErr L[j] := by
  conv => lhs; rw [← List.take_append_drop j L]
  rw [fErrL_append _ _ h0, List.drop_eq_getElem_cons h, fErrL, if_neg h1]
theorem fB_len {f : F} (h0 : fErr f = 0) (hk : f.Ok) : (fB f).length ≤ 9000 := by
  cases f with
  | num n x =>
    have := hk.2.1
    simp only [fB, putB_length]
    omega
  | text l =>
    have := textB_le l
    simp only [fB]
    omega
  | texts L =>
    simp only [fErr] at h0
    split at h0
    · cases h0
    · have := textsB_len L 16 (by omega)
      simp only [fB, List.length_append, putB_length]
      omega
  | qid q =>
    simp only [fB, qidB_length]
    omega
  | qids Q =>
    simp only [fErr] at h0
    split at h0
    · cases h0
    · have := qidsB_length Q
      simp only [fB, List.length_append, putB_length]
      omega
  | data b =>
    simp only [fErr] at h0
    split at h0
    · cases h0
    · simp only [fB, List.length_append, putB_length]
      omega
  | stat s =>
    have := size_short h0
    have := recB_length h0
    simp only [fB, List.length_append, putB_length]
    omega
theorem fBL_len : ∀ (L : List F), fErrL L = 0 → (∀ f ∈ L, f.Ok) → (fBL L).length ≤ 9000 * L.length
  | [], _, _ => by simp [fBL]
  | f :: L, h, hk => by
    obtain ⟨h1, h2⟩ := fErrL_cons h
    have a := fB_len h1 (hk f (by simp))
    have b := fBL_len L h2 (fun g hg => hk g (by simp [hg]))
    have e : fBL (f :: L) = fB f ++ fBL L := by simp [fBL]
    rw [e, List.length_append, List.length_cons]
    omega
/-- A message in bytes. -/
def msgB (t tag : Nat) (fs : List F) : List UInt8 := putB 1 t ++ (putB 2 tag ++ fBL fs)
def encErr (t : Nat) (fs : List F) : Int := if isType t then fErrL fs else 2

set_option maxHeartbeats 2000000 in
theorem encode51_no (g mb t : Nat) (v : Value) (cs : Array Value) (w : World) (hm : Has w mb 33 cs) (hc : cs[0]? = some (.int .u8 (t : Int))) (ht : ¬ isType t) :
    Calls Tryd.prog 24 #[.pointer (some ⟨mb, 0, none⟩), .pointer (some ⟨g, 0, none⟩)] w fun e w' => e = .panicked [{ v := .iface 36 (.int .i64 2), recovered := false }] ∧ Only (Foot g v) w w' := by
  have C := named_any mb t cs w hm hc
  rw [namedOf_none ht] at C
  have C := Lib.hid C
  clear hm hc ht
  go_enter Tryd.func24, Tryd.ntmps24
  go_wp2_with fail
  refine C.out.mono ?_
  rintro e w1 ⟨x, rfl, _, b1⟩
  have R : Hid (Only (Foot g v) w w1) := (Below.onlyNew b1).mono (fun _ _ h => h.elim)
  clear C b1
  simp only [Option.isSome_none]
  go_wp2_with fail
  refine (must_no 2 w1).mono ?_
  rintro e w' ⟨rfl, rfl⟩
  go_wp2
  exact ⟨rfl, rfl, R.out⟩

set_option maxHeartbeats 2000000 in
theorem encode51_any (B g mb lo hi t tag : Nat) (v : Value) (cs : Array Value) (l : List (K × Nat)) (fs : List F) (w : World) (h : OutAt w B g v []) (hm : Has w mb 33 cs) (hmb : ¬ Foot g v mb) (hc0 : cs[0]? = some (.int .u8 (t : Int))) (hc1 : cs[1]? = some (.int .u16 (tag : Int)))
    (ht : namedOf t = some l) (hfs : FsAt w lo hi cs l fs) (h256 : t < 256) (htag : tag < 65536) (hT : Tabs w) (hB : 1 < B ∧ 2 < B) (hhi : hi ≤ B) :
    Calls Tryd.prog 24 #[.pointer (some ⟨mb, 0, none⟩), .pointer (some ⟨g, 0, none⟩)] w (PutStep w B g v [] (fErrL fs) (msgB t tag fs)) := by
  have C := named_any mb t cs w hm hc0
  rw [ht] at C
  have C := Lib.hid C
  obtain ⟨hstd, hl4⟩ := named_std ht
  have hft : ∀ i, Foot g v i → B ≤ i ∧ i < w.heap.size := fun i hi => h.foot_lt hi
  have hBw : B ≤ w.heap.size := by have := hft g (.inl rfl); omega
  have hlen := hfs.1
  have hw1 : IntKind.u64.wrap (t : Int) = (t : Int) := IntWalk.u64_in _ (by omega)
  have hw2 : IntKind.u64.wrap (tag : Int) = (tag : Int) := IntWalk.u64_in _ (by omega)
  have p1 := putB_length 1 t
  have p2 := putB_length 2 tag
  have HC0 := Lib.hid hc0
  have HC1 := Lib.hid hc1
  have HS := Lib.hid hstd
  have HO := Lib.hid h
  have HM0 := Lib.hid hm
  have HF0 := Lib.hid hfs
  have HT0 := Lib.hid hT
  clear h hm hfs hT ht hstd hc0 hc1
  go_enter Tryd.func24, Tryd.ntmps24
  go_wp2_with fail
  refine C.out.mono ?_
  rintro e w1 ⟨x, rfl, hx, b1⟩
  have k1 := Below.onlyNew b1
  have hs1 := b1.size
  have HK := Lib.hid k1
  have x1 := Chain.start (HO.out.only k1 (fun _ _ h => h))
  have X1 := Lib.hid x1
  have HM := Lib.hid (fun (w2 : World) (k : Only (Foot g v) w1 w2) => (HM0.out.only k1 (fun h => h)).only k hmb)
  have HF := Lib.hid (fun (w2 : World) (k : Only (Foot g v) w1 w2) => (HF0.out.keep (k1.keeps (by omega) (fun _ _ _ h => h))).keep (k.keeps (by omega) (fun i _ hi hf => by have := (hft i hf).1; omega)))
  have HT := Lib.hid (fun (w2 : World) (k : Only (Foot g v) w1 w2) => (HT0.out.only k1 (fun h => h) (fun h => h)).only k (fun h => by have := (hft _ h).1; omega) (fun h => by have := (hft _ h).1; omega))
  obtain ⟨A, c, rfl, hx⟩ := hx
  simp only [Option.getD_some, List.length_map] at hx
  have HA := Lib.hid (fun (w2 : World) (k : Only (Foot g v) w1 w2) (hn : 0 < l.length) => (show ∃ gg, A = some ⟨gg, 0, none⟩ ∧ ∀ j (h : j < l.length), w2.cell? ⟨gg, j, none⟩ = some (fieldV mb l[j]) from by
    obtain ⟨gg, e, h1, h2, h3⟩ := hx hn
    refine ⟨gg, e, fun j hj => ?_⟩
    rw [k.cell (p := ⟨gg, j, none⟩) h2 (fun hf => by have := (hft _ hf).2; simp only at this; omega), h3 j (by simpa using hj)]
    simp))
  have c0 := ((HM.out _ x1.only).cell 0).trans HC0.out
  have C1 := Lib.hid (put_any B g v [] 1 (t : Int) w1 x1.out (by omega) (by omega) (by simp))
  rw [show putI 1 (t : Int) = putB 1 t from putI_of 1 _ (by omega) (by omega), List.nil_append] at C1
  clear C b1 hx x1 HM0 HF0 HT0 HO k1
  simp only [Option.isSome_some, Option.getD_some, List.length_map]
  go_wp2_with fail
  refine (must_yes 2 w1).mono ?_
  rintro e w' ⟨rfl, rfl⟩
  go_wp2_with fail
  refine C1.out.mono ?_
  intro e w2 st
  obtain ⟨v2, rfl, x2⟩ := X1.out.step st
  have c1 := ((HM.out _ x2.only).cell 1).trans HC1.out
  have C2 := Lib.hid (put_any B g v2 (putB 1 t) 2 (tag : Int) w2 x2.out (by omega) (by omega) (by omega))
  rw [show putI 2 (tag : Int) = putB 2 tag from putI_of 2 _ (by omega) (by omega)] at C2
  have X2 := Lib.hid x2
  clear C1 st x2 X1 c0
  go_wp2_with fail
  refine C2.out.mono ?_
  intro e w3 st
  obtain ⟨v3, rfl, x3⟩ := X2.out.step st
  have I0 : Hid (fErrL (fs.take 0) = 0 ∧ ListInv w1 B g v (putB 1 t ++ putB 2 tag ++ fBL (fs.take 0)) w3) := ⟨rfl, v3, by simpa [fBL] using x3⟩
  clear C2 st x3 X2 c1
  go_wp2_with fail
  go_loopw [22] (fun i wr => ∃ j : Nat, j ≤ l.length ∧ i = .int .i64 j ∧ Hid (fErrL (fs.take j) = 0 ∧ ListInv w1 B g v (putB 1 t ++ putB 2 tag ++ fBL (fs.take j)) wr)) (fun i _ => l.length - (intOf i).toNat)
  case atStart => exact ⟨0, Nat.zero_le _, rfl, I0⟩
  case round =>
    obtain ⟨j, hj, rfl, hrel⟩ := hrel
    clear I0
    obtain ⟨h0, v4, hC⟩ := hrel.out
    by_cases hlt : j < l.length
    · have hlf : j < fs.length := by omega
      obtain ⟨gg, rfl, hcl⟩ := HA.out _ hC.only (by omega)
      have hcell := hcl j hlt
      obtain ⟨hk, hfa, hok, hfw⟩ := (HF.out _ hC.only).2 j hlt hlf
      have hsd := (HS.out l[j] (List.getElem_mem hlt)).1
      have i0 : (0 : Int) ≤ (j : Int) := by omega
      have i1 : (j : Int) < (l.length : Int) := by omega
      have hle := fBL_len (fs.take j) h0 (fun f hf => by
        obtain ⟨k, hk, rfl⟩ := List.getElem_of_mem (List.mem_of_mem_take hf)
        exact ((HF.out _ hC.only).2 k (by omega) hk).2.2.1)
      have hl2 : (fs.take j).length ≤ 4 := by rw [List.length_take]; omega
      have C := putf_any B g mb l[j].2 lo hi v4 (putB 1 t ++ putB 2 tag ++ fBL (fs.take j)) cs fs[j] wr hC.out (HM.out _ hC.only) hfa (by rw [hk]; exact hsd) hok hfw (HT.out _ hC.only) hB hhi (by simp only [List.length_append]; omega)
      rw [hk] at C
      have hfe : fieldV mb l[j] = .iface l[j].1.ptr (.pointer (some ⟨mb, l[j].2, none⟩)) := rfl
      rw [hfe] at hcell
      obtain ⟨ty, hty⟩ : ∃ ty, ty = l[j].1.ptr := ⟨_, rfl⟩
      obtain ⟨off, hoff⟩ : ∃ off, off = l[j].2 := ⟨_, rfl⟩
      rw [← hty, ← hoff] at C hcell
      have C := Lib.hid C
      have h2 := fErrL_succ fs j hlf h0
      have h3 := fErrL_stop fs j hlf h0
      have h4 := fBL_succ fs j hlf
      obtain ⟨f, hf⟩ : ∃ f, f = fs[j] := ⟨_, rfl⟩
      rw [← hf] at C h2 h3 h4
      have fin : Hid (∀ e w2, PutStep wr B g v4 (putB 1 t ++ putB 2 tag ++ fBL (fs.take j)) (fErr f) (fB f) e w2 →
          (e = .returned (.tuple #[]) ∧ fErrL (fs.take (j + 1)) = 0 ∧ ListInv w1 B g v (putB 1 t ++ putB 2 tag ++ fBL (fs.take (j + 1))) w2) ∨
          (e = .panicked [{ v := .iface 36 (.int .i64 (fErr f)), recovered := false }] ∧ PutStep w B g v [] (fErrL fs) (msgB t tag fs) e w2)) := by
        rintro e w2 (⟨hz, st⟩ | ⟨hz, he, k⟩)
        · obtain ⟨v3, he, x3⟩ := hC.step st
          exact .inl ⟨he, by rw [h2]; exact hz, v3, by rw [h4, ← List.append_assoc]; exact x3⟩
        · refine .inr ⟨he, .inr ⟨by rw [h3 hz]; exact hz, by rw [h3 hz]; exact he, (HK.out.mono (fun _ _ h => h.elim)).trans (T := Foot g v) (hC.only.trans k ?_) (fun _ _ h => h)⟩⟩
          intro i hi hf
          rcases hf with hf | hf
          · exact .inl hf
          · rcases hC.own i hf with h | h
            · exact .inr h
            · omega
      clear hC h0 hrel hle h2 h3 h4 hf hcl hfe hk hfa hok hfw hsd hl2 hty hoff
      go_wp2_with fail
      refine C.out.mono ?_
      intro e w2 hst
      rcases fin.out e w2 hst with ⟨rfl, hR⟩ | ⟨rfl, hR⟩
      · have R := Lib.hid hR
        clear hst fin C hcell hR
        go_wp2
        go_roundw
        case rel => exact ⟨j + 1, by omega, by go_num, R⟩
        case measure => simp [intOf]; omega
      · have R := Lib.hid hR
        clear hst fin C hcell hR
        go_wp2
        exact ⟨rfl, R.out⟩
    · have hj4 : j = fs.length := by omega
      have e2 := hlen ▸ hj4
      rw [hj4, List.take_length] at h0 hC
      have R : Hid (PutStep w B g v [] (fErrL fs) (msgB t tag fs) (.returned (.tuple #[])) wr) := by
        rw [h0]
        refine .inl ⟨rfl, ?_⟩
        rw [List.nil_append, msgB, ← List.append_assoc]
        exact hC.fin HK.out
      have i1 : ¬ (j : Int) < (l.length : Int) := by omega
      clear hC h0 hrel
      go_wp2
      go_end0
      exact R.out

theorem Tryd.enterEncode5 : ∀ args w, (callFunc 24 args).run Tryd.prog w = .ok (.enter 24 args) w := enters_of Tryd.func24 (by kernel_rfl) rfl

theorem encode51_all (B g mb lo hi t tag : Nat) (v : Value) (cs : Array Value) (fs : List F) (w : World) (h : OutAt w B g v []) (hm : Has w mb 33 cs) (hmb : ¬ Foot g v mb) (hc0 : cs[0]? = some (.int .u8 (t : Int))) (hc1 : cs[1]? = some (.int .u16 (tag : Int)))
    (hfs : ∀ l, namedOf t = some l → FsAt w lo hi cs l fs) (h256 : t < 256) (htag : tag < 65536) (hT : Tabs w) (hB : 1 < B ∧ 2 < B) (hhi : hi ≤ B) :
    Calls Tryd.prog 24 #[.pointer (some ⟨mb, 0, none⟩), .pointer (some ⟨g, 0, none⟩)] w (PutStep w B g v [] (encErr t fs) (msgB t tag fs)) := by
  unfold encErr
  by_cases ht : isType t
  · rw [if_pos ht]
    obtain ⟨l, hl⟩ := Option.isSome_iff_exists.1 (named_some ht)
    exact encode51_any B g mb lo hi t tag v cs l fs w h hm hmb hc0 hc1 hl (hfs l hl) h256 htag hT hB hhi
  · rw [if_neg ht]
    exact (encode51_no g mb t v cs w hm hc0 ht).mono fun e w' ⟨he, k⟩ => .inr ⟨by decide, he, k⟩

/-- What Encode answers. -/
def Enc5Step (w : World) (t tag : Nat) (fs : List F) (e : Ending) (w' : World) : Prop :=
  (encErr t fs = 0 ∧ ∃ v, e = .returned (.tuple #[v, .int .i64 0]) ∧ w'.ownsRow w.heap.size 5 1 v (msgB t tag fs).length (b8s (msgB t tag fs)) ∧ Below w.heap.size w w') ∨
  (encErr t fs ≠ 0 ∧ e = .returned (.tuple #[.slice none 0 0, .int .i64 (encErr t fs)]) ∧ Below w.heap.size w w')

set_option maxHeartbeats 2000000 in
theorem encode5_any (lo hi t tag : Nat) (cs : Array Value) (fs : List F) (w : World) (hc0 : cs[0]? = some (.int .u8 (t : Int))) (hc1 : cs[1]? = some (.int .u16 (tag : Int)))
    (hfs : ∀ l, namedOf t = some l → FsAt w lo hi cs l fs) (h256 : t < 256) (htag : tag < 65536) (hT : Tabs w) (hhi : hi ≤ w.heap.size) :
    Calls Tryd.prog 10 #[.agg cs] w (Enc5Step w t tag fs) := by
  have hlt := hT.lt
  obtain ⟨W, hW⟩ : ∃ W, W = (w.alloc (.cells cs 33)).alloc (.cells #[.slice none 0 0] 59) := ⟨_, rfl⟩
  have k0 : Only (fun _ => False) w W := by rw [hW]; exact ((Only.refl _ w).alloc _).alloc _
  have kS : Has W w.heap.size 33 cs := by rw [hW]; exact (Has.new w _ _).alloc _
  have kO : OutAt W w.heap.size (w.heap.size + 1) (.slice none 0 0) [] := by
    rw [hW]
    refine ⟨?_, World.ownsRow_nil _ _ _ _, by omega⟩
    have := Has.new (w.alloc (.cells cs 33)) 59 #[.slice none 0 0]
    simpa using this
  have sW : W.heap.size = w.heap.size + 2 := by rw [hW]; simp
  have ke : Only (fun _ => False) W (W.alloc errBox) := (Only.refl _ W).alloc _
  have C1 := encode51_all w.heap.size (w.heap.size + 1) w.heap.size lo hi t tag (.slice none 0 0) cs fs (W.alloc errBox) (kO.only ke (fun _ _ h => h)) (kS.alloc _) (by
    intro h
    rcases h with h | h
    · omega
    · cases h) hc0 hc1 (fun l hl => ((hfs l hl).keep (k0.keeps hhi (fun _ _ _ h => h))).keep (ke.keeps (by omega) (fun _ _ _ h => h))) h256 htag ((hT.only k0 (fun h => h) (fun h => h)).only ke (fun h => h) (fun h => h)) hlt hhi
  have hnf : ¬ Foot (w.heap.size + 1) (.slice none 0 0) (w.heap.size + 2) := by
    intro h
    rcases h with h | h
    · omega
    · cases h
  have hlow : ∀ i, Foot (w.heap.size + 1) (.slice none 0 0) i → i = w.heap.size + 1 := by
    intro i h
    rcases h with h | h
    · exact h
    · cases h
  have hE : Has (W.alloc errBox) W.heap.size 36 #[.int .i64 0] := Has.new _ _ _
  have kW : Only (fun _ => False) w (W.alloc errBox) := k0.alloc _
  by_cases hz : encErr t fs = 0
  · have C := Lib.hid (caught_ok 24 _ Tryd.enterEncode5 W (fun w' => ∃ v', OutAt w' w.heap.size (w.heap.size + 1) v' (msgB t tag fs) ∧ Below w.heap.size w w') (C1.mono (by
      rintro e w' (⟨_, v', he, o, f, _⟩ | ⟨h, _⟩)
      · refine ⟨he, hE.only f (by rw [sW]; exact hnf), v', o, ?_⟩
        exact ((kW.mono (fun _ _ h => h.elim)).trans f (fun _ _ h => h)).below (Nat.le_refl _) (fun i hi h => by have := hlow i h; omega)
      · exact absurd hz h)))
    have hml : (msgB t tag fs).length ≤ 100000 := by
      unfold encErr at hz
      split at hz
      · rename_i ht
        obtain ⟨l, hl⟩ := Option.isSome_iff_exists.1 (named_some ht)
        have hf := hfs l hl
        have h4 := (named_std hl).2
        have := fBL_len fs hz (fun f hf' => by
          obtain ⟨k, hk, rfl⟩ := List.getElem_of_mem hf'
          exact (hf.2 k (by have := hf.1; omega) hk).2.2.1)
        have := hf.1
        simp only [msgB, List.length_append, putB_length]
        omega
      · cases hz
    clear hnf hlow hE kW C1 kS kO sW hT k0 hlt hfs hc0 hc1 ke
    go_enter Tryd.func10, Tryd.ntmps10
    go_wp2_with fail
    rw [← hW]
    refine C.out.mono ?_
    rintro e w1 ⟨rfl, v1, o1, b1⟩
    have O1 := Lib.hid o1
    have B1 := Lib.hid b1
    clear o1 b1 C hW
    go_wp2_with fail
    refine (bytes_any _ _ _ _ w1 O1.out (by omega)).mono ?_
    rintro e w2 ⟨v2, rfl, a2, b2⟩
    have R : Hid (Enc5Step w t tag fs (.returned (.tuple #[v2, .int .i64 0])) w2) := .inl ⟨hz, v2, rfl, owns_base a2 B1.out.size, B1.out.trans (b2.mono B1.out.size)⟩
    clear a2 b2 O1 B1
    go_wp2
    go_ret2
    exact R.out
  · have C := Lib.hid (caught_panic 24 _ Tryd.enterEncode5 W (encErr t fs) (fun w' => Below w.heap.size w w') (C1.mono (by
      rintro e w' (⟨h, _⟩ | ⟨_, he, f⟩)
      · exact absurd h hz
      · refine ⟨he, hE.only f (by rw [sW]; exact hnf), ?_⟩
        exact ((kW.mono (fun _ _ h => h.elim)).trans f (fun _ _ h => h)).below (Nat.le_refl _) (fun i hi h => by have := hlow i h; omega))))
    have hzb : (encErr t fs != 0) = true := by simpa using hz
    have fin : Hid (∀ w', Below w.heap.size w w' → Enc5Step w t tag fs (.returned (.tuple #[.slice none 0 0, .int .i64 (encErr t fs)])) w') := fun w' b => .inr ⟨hz, rfl, b⟩
    clear hnf hlow hE kW C1 kS kO hT k0 hlt hfs hc0 hc1 ke
    generalize encErr t fs = er at C fin hzb
    go_enter Tryd.func10, Tryd.ntmps10
    go_wp2_with fail
    rw [← hW]
    refine C.out.mono ?_
    rintro e w1 ⟨rfl, w2, h2, b1, hw1⟩
    have R := Lib.hid (fin.out w1 (by rw [hw1]; exact b1.setCell (p := ⟨W.heap.size, 0, none⟩) (by simp; omega) (.int .i64 er)))
    clear b1 C hW fin h2 hw1 sW
    go_wp2
    go_ret2
    exact R.out
end Go.Proofs.YtepiifbleoimkaaDoor
