/-
  Package msg: Encode of whatever message.
  Package msg: the taking of texts, lists, data and records.
  Package msg: the taking of records and lists.
  Package msg: the taking of lists.
  Package msg: take: whatever field is there.
-/
import Derived.Test.YtepiifbleoimkaaGreatDoorMsgD
import Derived.Deep.AppendLies
namespace Go.Proofs.YtepiifbleoimkaaGreatDoor
open Go.RowKit
set_option maxRecDepth 100000

instance (t : Nat) : Decidable (isType t) := by unfold isType; infer_instance
theorem isType_named {t : Nat} {l : List (K × Nat)} (h : namedOf t = some l) : isType t := Decidable.byContradiction fun hn => by rw [namedOf_none hn] at h; cases h
/-- What is only made anew. -/
theorem Below.onlyNew {a b : World} (h : Below a.heap.size a b) : Only (fun _ => False) a b := ⟨h.os, h.tape, h.output, h.size, fun i hi _ => h.block i hi⟩
/-- What Types name is of the kinds that there are, at most four. -/
def stdB : K × Nat → Bool
  | (.num n, o) => (n == 1 || n == 2 || n == 4 || n == 8) && decide (o < 36)
  | (_, o) => decide (o < 36)
theorem named_stdB {t : Nat} (h : isType t) : ((namedOf t).getD []).all stdB = true ∧ ((namedOf t).getD []).length ≤ 4 := by
  rcases isType_cases h with rfl | rfl | rfl | rfl | rfl | rfl | rfl | rfl | rfl | rfl | rfl | rfl | rfl | rfl | rfl | rfl | rfl | rfl | rfl | rfl | rfl | rfl | rfl | rfl | rfl | rfl | rfl <;> exact ⟨rfl, by decide⟩
theorem std_of {p : K × Nat} (h : stdB p = true) : p.1.std ∧ p.1.Ok ∧ p.2 < 36 := by
  obtain ⟨k, o⟩ := p
  cases k with
  | num n =>
    simp [stdB] at h
    refine ⟨?_, ?_, h.2⟩
    · show n = 1 ∨ n = 2 ∨ n = 4 ∨ n = 8
      omega
    · show 1 ≤ n ∧ n ≤ 8
      omega
  | _ => exact ⟨trivial, trivial, by simpa [stdB] using h⟩
theorem named_std {t : Nat} {l : List (K × Nat)} (h : namedOf t = some l) : (∀ p ∈ l, p.1.std ∧ p.1.Ok ∧ p.2 < 36) ∧ l.length ≤ 4 := by
  have := named_stdB (isType_named h)
  rw [h] at this
  exact ⟨fun p hp => std_of (List.all_eq_true.1 this.1 p hp), this.2⟩

/-- The fields fs lie at the places of l. -/
def FsAt (w : World) (lo hi : Nat) (cs : Array Value) (l : List (K × Nat)) (fs : List F) : Prop :=
  fs.length = l.length ∧ ∀ j (h1 : j < l.length) (h2 : j < fs.length), fs[j].kind = l[j].1 ∧ FAt w lo hi cs l[j].2 fs[j] ∧ fs[j].Ok ∧ fs[j].Few
theorem FsAt.keep {w w' : World} {lo hi : Nat} {cs : Array Value} {l : List (K × Nat)} {fs : List F} (h : FsAt w lo hi cs l fs) (hk : ∀ p : Addr, lo ≤ p.block → p.block < hi → w'.cell? p = w.cell? p) : FsAt w' lo hi cs l fs :=
  ⟨h.1, fun j h1 h2 => by obtain ⟨a, b, c, d⟩ := h.2 j h1 h2; exact ⟨a, b.keep hk, c, d⟩⟩
theorem fBL_succ (fs : List F) (j : Nat) (h : j < fs.length) : fBL (fs.take (j + 1)) = fBL (fs.take j) ++ fB fs[j] := by
  unfold fBL
  rw [List.take_succ_eq_append_getElem h, List.flatMap_append]
  simp
theorem fErrL_append (L M : List F) (h : fErrL L = 0) : fErrL (L ++ M) = fErrL M := by
  induction L with
  | nil => rfl
  | cons f L ih =>
    obtain ⟨h1, h2⟩ := fErrL_cons h
    rw [List.cons_append, fErrL, if_pos h1, ih h2]
theorem fErrL_succ (L : List F) (j : Nat) (h : j < L.length) (h0 : fErrL (L.take j) = 0) : fErrL (L.take (j + 1)) = fErr L[j] := by
  rw [List.take_succ_eq_append_getElem h, fErrL_append _ _ h0, fErrL, fErrL]
  split
  · rename_i h
    exact h.symm
  · rfl
theorem fErrL_stop (L : List F) (j : Nat) (h : j < L.length) (h0 : fErrL (L.take j) = 0) (h1 : fErr L[j] ≠ 0) : fErrL L = fErr L[j] := by
  conv => lhs; rw [← List.take_append_drop j L]
  rw [fErrL_append _ _ h0, List.drop_eq_getElem_cons h, fErrL, if_neg h1]
theorem fB_len {f : F} (h0 : fErr f = 0) (hk : f.Ok) : (fB f).length ≤ 9000 := by
  cases f with
  | num n x =>
    have := hk.2.1
    simp only [fB, putB_length]
    omega
  | text l =>
    have := textB_le l
    simp only [fB]
    omega
  | texts L =>
    simp only [fErr] at h0
    split at h0
    · cases h0
    · have := textsB_len L 16 (by omega)
      simp only [fB, List.length_append, putB_length]
      omega
  | qid q =>
    simp only [fB, qidB_length]
    omega
  | qids Q =>
    simp only [fErr] at h0
    split at h0
    · cases h0
    · have := qidsB_length Q
      simp only [fB, List.length_append, putB_length]
      omega
  | data b =>
    simp only [fErr] at h0
    split at h0
    · cases h0
    · simp only [fB, List.length_append, putB_length]
      omega
  | stat s =>
    have := size_short h0
    have := recB_length h0
    simp only [fB, List.length_append, putB_length]
    omega
theorem fBL_len : ∀ (L : List F), fErrL L = 0 → (∀ f ∈ L, f.Ok) → (fBL L).length ≤ 9000 * L.length
  | [], _, _ => by simp [fBL]
  | f :: L, h, hk => by
    obtain ⟨h1, h2⟩ := fErrL_cons h
    have a := fB_len h1 (hk f (by simp))
    have b := fBL_len L h2 (fun g hg => hk g (by simp [hg]))
    have e : fBL (f :: L) = fB f ++ fBL L := by simp [fBL]
    rw [e, List.length_append, List.length_cons]
    omega
/-- A message in bytes. -/
def msgB (t tag : Nat) (fs : List F) : List UInt8 := putB 1 t ++ (putB 2 tag ++ fBL fs)
def encErr (t : Nat) (fs : List F) : Int := if isType t then fErrL fs else 2

set_option maxHeartbeats 2000000 in
theorem encode51_no (g mb t : Nat) (v : Value) (cs : Array Value) (w : World) (hm : Has w mb 34 cs) (hc : cs[0]? = some (.int .u8 (t : Int))) (ht : ¬ isType t) :
    Calls Tryz.prog 27 #[.pointer (some ⟨mb, 0, none⟩), .pointer (some ⟨g, 0, none⟩)] w fun e w' => e = .panicked [{ v := .iface 35 (.int .i64 2), recovered := false }] ∧ Only (Foot g v) w w' := by
  have C := named_any mb t cs w hm hc
  rw [namedOf_none ht] at C
  have C := Lib.hid C
  clear hm hc ht
  go_enter Tryz.func27, Tryz.ntmps27
  go_wp2_with fail
  refine C.out.mono ?_
  rintro e w1 ⟨x, rfl, _, b1⟩
  have R : Hid (Only (Foot g v) w w1) := (Below.onlyNew b1).mono (fun _ _ h => h.elim)
  clear C b1
  simp only [Option.isSome_none]
  go_wp2_with fail
  refine (must_no 2 w1).mono ?_
  rintro e w' ⟨rfl, rfl⟩
  go_wp2
  exact ⟨rfl, rfl, R.out⟩

set_option maxHeartbeats 2000000 in
theorem encode51_any (B g mb lo hi t tag : Nat) (v : Value) (cs : Array Value) (l : List (K × Nat)) (fs : List F) (w : World) (h : OutAt w B g v []) (hm : Has w mb 34 cs) (hmb : ¬ Foot g v mb) (hc0 : cs[0]? = some (.int .u8 (t : Int))) (hc1 : cs[1]? = some (.int .u16 (tag : Int)))
    (ht : namedOf t = some l) (hfs : FsAt w lo hi cs l fs) (h256 : t < 256) (htag : tag < 65536) (hT : Tabs w) (hB : 1 < B ∧ 2 < B) (hhi : hi ≤ B) :
    Calls Tryz.prog 27 #[.pointer (some ⟨mb, 0, none⟩), .pointer (some ⟨g, 0, none⟩)] w (PutStep w B g v [] (fErrL fs) (msgB t tag fs)) := by
  have C := named_any mb t cs w hm hc0
  rw [ht] at C
  have C := Lib.hid C
  obtain ⟨hstd, hl4⟩ := named_std ht
  have hft : ∀ i, Foot g v i → B ≤ i ∧ i < w.heap.size := fun i hi => h.foot_lt hi
  have hBw : B ≤ w.heap.size := by have := hft g (.inl rfl); omega
  have hlen := hfs.1
  have hw1 : IntKind.u64.wrap (t : Int) = (t : Int) := IntWalk.u64_in _ (by omega)
  have hw2 : IntKind.u64.wrap (tag : Int) = (tag : Int) := IntWalk.u64_in _ (by omega)
  have p1 := putB_length 1 t
  have p2 := putB_length 2 tag
  have HC0 := Lib.hid hc0
  have HC1 := Lib.hid hc1
  have HS := Lib.hid hstd
  have HO := Lib.hid h
  have HM0 := Lib.hid hm
  have HF0 := Lib.hid hfs
  have HT0 := Lib.hid hT
  clear h hm hfs hT ht hstd hc0 hc1
  go_enter Tryz.func27, Tryz.ntmps27
  go_wp2_with fail
  refine C.out.mono ?_
  rintro e w1 ⟨x, rfl, hx, b1⟩
  have k1 := Below.onlyNew b1
  have hs1 := b1.size
  have HK := Lib.hid k1
  have x1 := Chain.start (HO.out.only k1 (fun _ _ h => h))
  have X1 := Lib.hid x1
  have HM := Lib.hid (fun (w2 : World) (k : Only (Foot g v) w1 w2) => (HM0.out.only k1 (fun h => h)).only k hmb)
  have HF := Lib.hid (fun (w2 : World) (k : Only (Foot g v) w1 w2) => (HF0.out.keep (k1.keeps (by omega) (fun _ _ _ h => h))).keep (k.keeps (by omega) (fun i _ hi hf => by have := (hft i hf).1; omega)))
  have HT := Lib.hid (fun (w2 : World) (k : Only (Foot g v) w1 w2) => (HT0.out.only k1 (fun h => h) (fun h => h)).only k (fun h => by have := (hft _ h).1; omega) (fun h => by have := (hft _ h).1; omega))
  obtain ⟨A, c, rfl, hx⟩ := hx
  simp only [Option.getD_some, List.length_map] at hx
  have HA := Lib.hid (fun (w2 : World) (k : Only (Foot g v) w1 w2) (hn : 0 < l.length) => (show ∃ gg, A = some ⟨gg, 0, none⟩ ∧ ∀ j (h : j < l.length), w2.cell? ⟨gg, j, none⟩ = some (fieldV mb l[j]) from by
    obtain ⟨gg, e, h1, h2, h3⟩ := hx hn
    refine ⟨gg, e, fun j hj => ?_⟩
    rw [k.cell (p := ⟨gg, j, none⟩) h2 (fun hf => by have := (hft _ hf).2; simp only at this; omega), h3 j (by simpa using hj)]
    simp))
  have c0 := ((HM.out _ x1.only).cell 0).trans HC0.out
  have C1 := Lib.hid (put_any B g v [] 1 (t : Int) w1 x1.out (by omega) (by omega) (by simp))
  rw [show putI 1 (t : Int) = putB 1 t from putI_of 1 _ (by omega) (by omega), List.nil_append] at C1
  clear C b1 hx x1 HM0 HF0 HT0 HO k1
  simp only [Option.isSome_some, Option.getD_some, List.length_map]
  go_wp2_with fail
  refine (must_yes 2 w1).mono ?_
  rintro e w' ⟨rfl, rfl⟩
  go_wp2_with fail
  refine C1.out.mono ?_
  intro e w2 st
  obtain ⟨v2, rfl, x2⟩ := X1.out.step st
  have c1 := ((HM.out _ x2.only).cell 1).trans HC1.out
  have C2 := Lib.hid (put_any B g v2 (putB 1 t) 2 (tag : Int) w2 x2.out (by omega) (by omega) (by omega))
  rw [show putI 2 (tag : Int) = putB 2 tag from putI_of 2 _ (by omega) (by omega)] at C2
  have X2 := Lib.hid x2
  clear C1 st x2 X1 c0
  go_wp2_with fail
  refine C2.out.mono ?_
  intro e w3 st
  obtain ⟨v3, rfl, x3⟩ := X2.out.step st
  have I0 : Hid (fErrL (fs.take 0) = 0 ∧ ListInv w1 B g v (putB 1 t ++ putB 2 tag ++ fBL (fs.take 0)) w3) := ⟨rfl, v3, by simpa [fBL] using x3⟩
  clear C2 st x3 X2 c1
  go_wp2_with fail
  go_loopw [22] (fun i wr => ∃ j : Nat, j ≤ l.length ∧ i = .int .i64 j ∧ Hid (fErrL (fs.take j) = 0 ∧ ListInv w1 B g v (putB 1 t ++ putB 2 tag ++ fBL (fs.take j)) wr)) (fun i _ => l.length - (intOf i).toNat)
  case atStart => exact ⟨0, Nat.zero_le _, rfl, I0⟩
  case round =>
    obtain ⟨j, hj, rfl, hrel⟩ := hrel
    clear I0
    obtain ⟨h0, v4, hC⟩ := hrel.out
    by_cases hlt : j < l.length
    · have hlf : j < fs.length := by omega
      obtain ⟨gg, rfl, hcl⟩ := HA.out _ hC.only (by omega)
      have hcell := hcl j hlt
      obtain ⟨hk, hfa, hok, hfw⟩ := (HF.out _ hC.only).2 j hlt hlf
      have hsd := (HS.out l[j] (List.getElem_mem hlt)).1
      have i0 : (0 : Int) ≤ (j : Int) := by omega
      have i1 : (j : Int) < (l.length : Int) := by omega
      have hle := fBL_len (fs.take j) h0 (fun f hf => by
        obtain ⟨k, hk, rfl⟩ := List.getElem_of_mem (List.mem_of_mem_take hf)
        exact ((HF.out _ hC.only).2 k (by omega) hk).2.2.1)
      have hl2 : (fs.take j).length ≤ 4 := by rw [List.length_take]; omega
      have C := putf_any B g mb l[j].2 lo hi v4 (putB 1 t ++ putB 2 tag ++ fBL (fs.take j)) cs fs[j] wr hC.out (HM.out _ hC.only) hfa (by rw [hk]; exact hsd) hok hfw (HT.out _ hC.only) hB hhi (by simp only [List.length_append]; omega)
      rw [hk] at C
      have hfe : fieldV mb l[j] = .iface l[j].1.ptr (.pointer (some ⟨mb, l[j].2, none⟩)) := rfl
      rw [hfe] at hcell
      obtain ⟨ty, hty⟩ : ∃ ty, ty = l[j].1.ptr := ⟨_, rfl⟩
      obtain ⟨off, hoff⟩ : ∃ off, off = l[j].2 := ⟨_, rfl⟩
      rw [← hty, ← hoff] at C hcell
      have C := Lib.hid C
      have h2 := fErrL_succ fs j hlf h0
      have h3 := fErrL_stop fs j hlf h0
      have h4 := fBL_succ fs j hlf
      obtain ⟨f, hf⟩ : ∃ f, f = fs[j] := ⟨_, rfl⟩
      rw [← hf] at C h2 h3 h4
      have fin : Hid (∀ e w2, PutStep wr B g v4 (putB 1 t ++ putB 2 tag ++ fBL (fs.take j)) (fErr f) (fB f) e w2 →
          (e = .returned (.tuple #[]) ∧ fErrL (fs.take (j + 1)) = 0 ∧ ListInv w1 B g v (putB 1 t ++ putB 2 tag ++ fBL (fs.take (j + 1))) w2) ∨
          (e = .panicked [{ v := .iface 35 (.int .i64 (fErr f)), recovered := false }] ∧ PutStep w B g v [] (fErrL fs) (msgB t tag fs) e w2)) := by
        rintro e w2 (⟨hz, st⟩ | ⟨hz, he, k⟩)
        · obtain ⟨v3, he, x3⟩ := hC.step st
          exact .inl ⟨he, by rw [h2]; exact hz, v3, by rw [h4, ← List.append_assoc]; exact x3⟩
        · refine .inr ⟨he, .inr ⟨by rw [h3 hz]; exact hz, by rw [h3 hz]; exact he, (HK.out.mono (fun _ _ h => h.elim)).trans (T := Foot g v) (hC.only.trans k ?_) (fun _ _ h => h)⟩⟩
          intro i hi hf
          rcases hf with hf | hf
          · exact .inl hf
          · rcases hC.own i hf with h | h
            · exact .inr h
            · omega
      clear hC h0 hrel hle h2 h3 h4 hf hcl hfe hk hfa hok hfw hsd hl2 hty hoff
      go_wp2_with fail
      refine C.out.mono ?_
      intro e w2 hst
      rcases fin.out e w2 hst with ⟨rfl, hR⟩ | ⟨rfl, hR⟩
      · have R := Lib.hid hR
        clear hst fin C hcell hR
        go_wp2
        go_roundw
        case rel => exact ⟨j + 1, by omega, by go_num, R⟩
        case measure => simp [intOf]; omega
      · have R := Lib.hid hR
        clear hst fin C hcell hR
        go_wp2
        exact ⟨rfl, R.out⟩
    · have hj4 : j = fs.length := by omega
      have e2 := hlen ▸ hj4
      rw [hj4, List.take_length] at h0 hC
      have R : Hid (PutStep w B g v [] (fErrL fs) (msgB t tag fs) (.returned (.tuple #[])) wr) := by
        rw [h0]
        refine .inl ⟨rfl, ?_⟩
        rw [List.nil_append, msgB, ← List.append_assoc]
        exact hC.fin HK.out
      have i1 : ¬ (j : Int) < (l.length : Int) := by omega
      clear hC h0 hrel
      go_wp2
      go_end0
      exact R.out

theorem Tryz.enterEncode5 : ∀ args w, (callFunc 27 args).run Tryz.prog w = .ok (.enter 27 args) w := enters_of Tryz.func27 (by kernel_rfl) rfl

theorem encode51_all (B g mb lo hi t tag : Nat) (v : Value) (cs : Array Value) (fs : List F) (w : World) (h : OutAt w B g v []) (hm : Has w mb 34 cs) (hmb : ¬ Foot g v mb) (hc0 : cs[0]? = some (.int .u8 (t : Int))) (hc1 : cs[1]? = some (.int .u16 (tag : Int)))
    (hfs : ∀ l, namedOf t = some l → FsAt w lo hi cs l fs) (h256 : t < 256) (htag : tag < 65536) (hT : Tabs w) (hB : 1 < B ∧ 2 < B) (hhi : hi ≤ B) :
    Calls Tryz.prog 27 #[.pointer (some ⟨mb, 0, none⟩), .pointer (some ⟨g, 0, none⟩)] w (PutStep w B g v [] (encErr t fs) (msgB t tag fs)) := by
  unfold encErr
  by_cases ht : isType t
  · rw [if_pos ht]
    obtain ⟨l, hl⟩ := Option.isSome_iff_exists.1 (named_some ht)
    exact encode51_any B g mb lo hi t tag v cs l fs w h hm hmb hc0 hc1 hl (hfs l hl) h256 htag hT hB hhi
  · rw [if_neg ht]
    exact (encode51_no g mb t v cs w hm hc0 ht).mono fun e w' ⟨he, k⟩ => .inr ⟨by decide, he, k⟩

/-- What Encode answers. -/
def Enc5Step (w : World) (t tag : Nat) (fs : List F) (e : Ending) (w' : World) : Prop :=
  (encErr t fs = 0 ∧ ∃ v, e = .returned (.tuple #[v, .int .i64 0]) ∧ w'.ownsRow w.heap.size 5 1 v (msgB t tag fs).length (b8s (msgB t tag fs)) ∧ Below w.heap.size w w') ∨
  (encErr t fs ≠ 0 ∧ e = .returned (.tuple #[.slice none 0 0, .int .i64 (encErr t fs)]) ∧ Below w.heap.size w w')

set_option maxHeartbeats 2000000 in
theorem encode5_any (lo hi t tag : Nat) (cs : Array Value) (fs : List F) (w : World) (hc0 : cs[0]? = some (.int .u8 (t : Int))) (hc1 : cs[1]? = some (.int .u16 (tag : Int)))
    (hfs : ∀ l, namedOf t = some l → FsAt w lo hi cs l fs) (h256 : t < 256) (htag : tag < 65536) (hT : Tabs w) (hhi : hi ≤ w.heap.size) :
    Calls Tryz.prog 9 #[.agg cs] w (Enc5Step w t tag fs) := by
  have hlt := hT.lt
  obtain ⟨W, hW⟩ : ∃ W, W = (w.alloc (.cells cs 34)).alloc (.cells #[.slice none 0 0] 71) := ⟨_, rfl⟩
  have k0 : Only (fun _ => False) w W := by rw [hW]; exact ((Only.refl _ w).alloc _).alloc _
  have kS : Has W w.heap.size 34 cs := by rw [hW]; exact (Has.new w _ _).alloc _
  have kO : OutAt W w.heap.size (w.heap.size + 1) (.slice none 0 0) [] := by
    rw [hW]
    refine ⟨?_, World.ownsRow_nil _ _ _ _, by omega⟩
    have := Has.new (w.alloc (.cells cs 34)) 71 #[.slice none 0 0]
    simpa using this
  have sW : W.heap.size = w.heap.size + 2 := by rw [hW]; simp
  have ke : Only (fun _ => False) W (W.alloc errBox) := (Only.refl _ W).alloc _
  have C1 := encode51_all w.heap.size (w.heap.size + 1) w.heap.size lo hi t tag (.slice none 0 0) cs fs (W.alloc errBox) (kO.only ke (fun _ _ h => h)) (kS.alloc _) (by
    intro h
    rcases h with h | h
    · omega
    · cases h) hc0 hc1 (fun l hl => ((hfs l hl).keep (k0.keeps hhi (fun _ _ _ h => h))).keep (ke.keeps (by omega) (fun _ _ _ h => h))) h256 htag ((hT.only k0 (fun h => h) (fun h => h)).only ke (fun h => h) (fun h => h)) hlt hhi
  have hnf : ¬ Foot (w.heap.size + 1) (.slice none 0 0) (w.heap.size + 2) := by
    intro h
    rcases h with h | h
    · omega
    · cases h
  have hlow : ∀ i, Foot (w.heap.size + 1) (.slice none 0 0) i → i = w.heap.size + 1 := by
    intro i h
    rcases h with h | h
    · exact h
    · cases h
  have hE : Has (W.alloc errBox) W.heap.size 35 #[.int .i64 0] := Has.new _ _ _
  have kW : Only (fun _ => False) w (W.alloc errBox) := k0.alloc _
  by_cases hz : encErr t fs = 0
  · have C := Lib.hid (caught_ok 27 _ Tryz.enterEncode5 W (fun w' => ∃ v', OutAt w' w.heap.size (w.heap.size + 1) v' (msgB t tag fs) ∧ Below w.heap.size w w') (C1.mono (by
      rintro e w' (⟨_, v', he, o, f, _⟩ | ⟨h, _⟩)
      · refine ⟨he, hE.only f (by rw [sW]; exact hnf), v', o, ?_⟩
        exact ((kW.mono (fun _ _ h => h.elim)).trans f (fun _ _ h => h)).below (Nat.le_refl _) (fun i hi h => by have := hlow i h; omega)
      · exact absurd hz h)))
    have hml : (msgB t tag fs).length ≤ 100000 := by
      unfold encErr at hz
      split at hz
      · rename_i ht
        obtain ⟨l, hl⟩ := Option.isSome_iff_exists.1 (named_some ht)
        have hf := hfs l hl
        have h4 := (named_std hl).2
        have := fBL_len fs hz (fun f hf' => by
          obtain ⟨k, hk, rfl⟩ := List.getElem_of_mem hf'
          exact (hf.2 k (by have := hf.1; omega) hk).2.2.1)
        have := hf.1
        simp only [msgB, List.length_append, putB_length]
        omega
      · cases hz
    clear hnf hlow hE kW C1 kS kO sW hT k0 hlt hfs hc0 hc1 ke
    go_enter Tryz.func9, Tryz.ntmps9
    go_wp2_with fail
    rw [← hW]
    refine C.out.mono ?_
    rintro e w1 ⟨rfl, v1, o1, b1⟩
    have O1 := Lib.hid o1
    have B1 := Lib.hid b1
    clear o1 b1 C hW
    go_wp2_with fail
    refine (bytes_any _ _ _ _ w1 O1.out (by omega)).mono ?_
    rintro e w2 ⟨v2, rfl, a2, b2⟩
    have R : Hid (Enc5Step w t tag fs (.returned (.tuple #[v2, .int .i64 0])) w2) := .inl ⟨hz, v2, rfl, owns_base a2 B1.out.size, B1.out.trans (b2.mono B1.out.size)⟩
    clear a2 b2 O1 B1
    go_wp2
    go_ret2
    exact R.out
  · have C := Lib.hid (caught_panic 27 _ Tryz.enterEncode5 W (encErr t fs) (fun w' => Below w.heap.size w w') (C1.mono (by
      rintro e w' (⟨h, _⟩ | ⟨_, he, f⟩)
      · exact absurd h hz
      · refine ⟨he, hE.only f (by rw [sW]; exact hnf), ?_⟩
        exact ((kW.mono (fun _ _ h => h.elim)).trans f (fun _ _ h => h)).below (Nat.le_refl _) (fun i hi h => by have := hlow i h; omega))))
    have hzb : (encErr t fs != 0) = true := by simpa using hz
    have fin : Hid (∀ w', Below w.heap.size w w' → Enc5Step w t tag fs (.returned (.tuple #[.slice none 0 0, .int .i64 (encErr t fs)])) w') := fun w' b => .inr ⟨hz, rfl, b⟩
    clear hnf hlow hE kW C1 kS kO hT k0 hlt hfs hc0 hc1 ke
    generalize encErr t fs = er at C fin hzb
    go_enter Tryz.func9, Tryz.ntmps9
    go_wp2_with fail
    rw [← hW]
    refine C.out.mono ?_
    rintro e w1 ⟨rfl, w2, h2, b1, hw1⟩
    have R := Lib.hid (fin.out w1 (by rw [hw1]; exact b1.setCell (p := ⟨W.heap.size, 0, none⟩) (by simp; omega) (.int .i64 er)))
    clear b1 C hW fin h2 hw1 sW
    go_wp2
    go_ret2
    exact R.out
end Go.Proofs.YtepiifbleoimkaaGreatDoor
namespace Go.Proofs.YtepiifbleoimkaaGreatDoor
open Go.RowKit
set_option maxRecDepth 100000

/-- The value v is the field f; what its slices lead to lies in blocks from lo on and below hi. -/
def FV (w : World) (lo hi : Nat) (v : Value) : F → Prop
  | .num n x => v = .int (ik n) (x : Int)
  | .text l => v = .string (strOf l)
  | .texts L => StrsAt w lo hi v L
  | .qid q => v = q.val
  | .qids Q => QdsAt w lo hi v Q
  | .data b => SlIs w lo hi v b
  | .stat s => v = s.val
def tkE (k : K) (bs : List UInt8) (er : Int) : Option (F × List UInt8) := if er = 0 then tkF k bs else none
/-- What a field's taking leaves: a panic with ErrForm where the bytes tell none; else a field of that kind, and the In behind it. -/
def TkStep (w : World) (lo g : Nat) (k : K) (bs : List UInt8) (er : Int) (e : Ending) (w' : World) : Prop :=
  (e = .panicked [{ v := .iface 35 (.int .i64 2), recovered := false }] ∧ Only (fun i => i = g) w w' ∧ tkE k bs er = none) ∨
  (∃ f v bs' er', e = .returned v ∧ f.kind = k ∧ FV w' w.heap.size w'.heap.size v f ∧ InAt w' lo g bs' er' ∧ Only (fun i => i = g) w w' ∧ bs'.length ≤ bs.length ∧ (er' = 0 → tkE k bs er = some (f, bs')) ∧ (er' ≠ 0 → tkE k bs er = none))

theorem textSt_bad {bs : List UInt8} {er : Int} (h : er ≠ 0) : textSt bs er = none := by
  have h2 : (takeSt 2 bs er).2.2 ≠ 0 := takeSt_bad h
  have h3 : (tst bs er).2.2 ≠ 0 := by
    unfold tst
    rw [rawSt, if_pos h2]
    exact h2
  unfold textSt tans
  rw [if_pos h3]
  simp [h3]
set_option maxHeartbeats 1000000 in
theorem taketext5_any (lo g : Nat) (bs : List UInt8) (er : Int) (w : World) (hI : InAt w lo g bs er) (hT : Tabs w) (h1 : ¬ 1 = g) (h2 : ¬ 2 = g) (hb : bs.length ≤ 140737488355328) :
    Calls Tryz.prog 63 #[.pointer (some ⟨g, 0, none⟩)] w (TTextStep w lo g (textSt bs er)) := by
  have C := Lib.hid (ttake_any lo g bs er w hI hT h1 h2 hb)
  have hz := @tans_zero bs er
  have hs : textSt bs er = if (tans bs er).2 = 0 then some ((tans bs er).1, (tst bs er).2.1) else none := rfl
  unfold TTake at C
  generalize tans bs er = A at C hz hs
  generalize tst bs er = B at C hz hs
  obtain ⟨t, x⟩ := A
  obtain ⟨b1, b2, b3⟩ := B
  simp only at C hz hs
  clear hI hT h1 h2 hb
  by_cases h0 : x = 0
  · subst h0
    have h3 := (hz rfl).1
    subst h3
    rw [if_pos rfl] at hs
    rw [hs]
    clear hz hs
    go_enter Tryz.func63, Tryz.ntmps63
    go_wp2_with fail
    refine C.out.mono ?_
    rintro e w1 ⟨rfl, i1, f1⟩
    have R : Hid (TTextStep w lo g (some (t, b2)) (.returned (.string (strOf t))) w1) := ⟨rfl, i1, f1⟩
    clear i1 f1 C
    go_wp2_with fail
    refine (must_yes 2 w1).mono ?_
    rintro e w' ⟨rfl, rfl⟩
    go_wp2
    go_ret
    exact R.out
  · rw [if_neg h0] at hs
    rw [hs]
    have hd : (x == 0) = false := by simpa using h0
    clear hz hs h0
    go_enter Tryz.func63, Tryz.ntmps63
    go_wp2_with fail
    refine C.out.mono ?_
    rintro e w1 ⟨rfl, i1, f1⟩
    have R : Hid (TTextStep w lo g none (.panicked [{ v := .iface 35 (.int .i64 2), recovered := false }]) w1) := ⟨rfl, f1⟩
    clear i1 f1 C
    go_wp2_with fail
    refine (must_no 2 w1).mono ?_
    rintro e w' ⟨rfl, rfl⟩
    go_wp2
    exact ⟨rfl, R.out⟩
theorem tktext_any (lo g : Nat) (bs : List UInt8) (er : Int) (w : World) (hI : InAt w lo g bs er) (hT : Tabs w) (h1 : ¬ 1 = g) (h2 : ¬ 2 = g) (hb : bs.length ≤ 100000) :
    Calls Tryz.prog 63 #[.pointer (some ⟨g, 0, none⟩)] w (TkStep w lo g .text bs er) := by
  refine (taketext5_any lo g bs er w hI hT h1 h2 (by omega)).mono ?_
  intro e w' st
  cases hr : textSt bs er with
  | none =>
    rw [hr] at st
    refine .inl ⟨st.1, st.2, ?_⟩
    unfold tkE
    split
    · rename_i h0
      rw [h0] at hr
      simp [tkF, hr]
    · rfl
  | some p =>
    obtain ⟨t, rest⟩ := p
    rw [hr] at st
    obtain ⟨he, i1, k1⟩ := st
    have h0 : er = 0 := Decidable.byContradiction fun hn => by rw [textSt_bad hn] at hr; cases hr
    refine .inr ⟨.text t, _, rest, 0, he, rfl, rfl, i1, k1, textSt_len hr, fun _ => ?_, fun h => absurd rfl h⟩
    rw [tkE, if_pos h0, tkF]
    rw [h0] at hr
    rw [hr]
    rfl

theorem takeSt_bad1 {n : Int} {bs : List UInt8} {er : Int} (h : (takeSt n bs er).2.2 ≠ 0) : (takeSt n bs er).1 = 0 := by
  unfold takeSt at h ⊢
  split
  · rfl
  · split
    · rfl
    · split
      · rfl
      · rename_i a b c
        rw [if_neg a, if_neg b, if_neg c] at h
        exact absurd rfl h
theorem takeSt_zero {n : Int} {bs : List UInt8} {er : Int} (h : (takeSt n bs er).2.2 = 0) : er = 0 := Decidable.byContradiction fun hn => takeSt_bad hn h
theorem tkN_of {n : Nat} {bs : List UInt8} {er : Int} (h : (takeSt (n : Int) bs er).2.2 = 0) : er = 0 ∧ tkN n bs = some ((takeSt (n : Int) bs er).1, (takeSt (n : Int) bs er).2.1) := by
  have h0 := takeSt_zero h
  subst h0
  exact ⟨rfl, by rw [tkN, if_pos h]⟩
theorem tkN_none {n : Nat} {bs : List UInt8} (h : (takeSt (n : Int) bs 0).2.2 ≠ 0) : tkN n bs = none := by rw [tkN, if_neg h]

set_option maxHeartbeats 1000000 in
theorem tkdata_any (lo g : Nat) (bs : List UInt8) (er : Int) (w : World) (hI : InAt w lo g bs er) (hb : bs.length ≤ 100000) :
    Calls Tryz.prog 67 #[.pointer (some ⟨g, 0, none⟩)] w (TkStep w lo g .data bs er) := by
  have C := Lib.hid (take_any lo g 4 bs er w hI)
  have hlt := takeSt_lt 4 bs er
  have hln := takeSt_len 4 bs er
  have hz := @tkN_of 4 bs er
  have hz2 := @takeSt_bad1 4 bs er
  have hno := @tkN_none 4 bs
  have hE : tkE .data bs er = if er = 0 then ((tkN 4 bs).bind fun n => if 8192 < n.1 then none else (tkRaw n.1 n.2).map fun x => (.data x.1, x.2)) else none := rfl
  have h00 : er = 0 → takeSt ((4 : Nat) : Int) bs 0 = takeSt ((4 : Nat) : Int) bs er := fun h => by rw [h]
  obtain ⟨s, hs⟩ : ∃ s, s = takeSt 4 bs er := ⟨_, rfl⟩
  rw [show takeSt ((4 : Nat) : Int) bs er = s from hs.symm] at hlt hz h00
  rw [← hs] at C hz2 hln
  obtain ⟨n, r, e1⟩ := s
  simp only at C hlt hz hz2 hln
  have hwu : IntKind.i64.wrap (n : Int) = (n : Int) := IntWalk.i64_in _ (by omega)
  have hgl := hI.lt
  clear hs hI
  by_cases hbig : 8192 < n
  · have hd : decide ((n : Int) ≤ 8192) = false := decide_eq_false (by omega)
    have h1 : e1 = 0 := Decidable.byContradiction fun hn => by have := hz2 hn; omega
    have hN : Hid (tkE .data bs er = none) := by
      obtain ⟨a, b⟩ := hz h1
      refine Lib.hid ?_
      rw [hE, if_pos a, b]
      simp [hbig]
    clear hE h00 hz hz2 hno hbig
    go_enter Tryz.func67, Tryz.ntmps67
    go_wp2_with fail
    refine C.out.mono ?_
    rintro e w1 ⟨rfl, i1, k1⟩
    have R : Hid (TkStep w lo g .data bs er (.panicked [{ v := .iface 35 (.int .i64 2), recovered := false }]) w1) := .inl ⟨rfl, k1, hN.out⟩
    clear C i1 k1 hN
    go_wp2_with fail
    refine (must_no 2 w1).mono ?_
    rintro e w' ⟨rfl, rfl⟩
    go_wp2
    exact ⟨rfl, R.out⟩
  · have hd : decide ((n : Int) ≤ 8192) = true := decide_eq_true (by omega)
    have HE := Lib.hid hE
    have HZ := Lib.hid hz
    have HN := Lib.hid hno
    have H0 := Lib.hid h00
    clear hE hz hno h00
    go_enter Tryz.func67, Tryz.ntmps67
    go_wp2_with fail
    refine C.out.mono ?_
    rintro e w1 ⟨rfl, i1, k1⟩
    have C2 := Lib.hid (raw_any lo g (n : Int) r e1 w1 i1 (by omega))
    have K1 := Lib.hid k1
    clear C i1 k1
    go_wp2_with fail
    refine (must_yes 2 w1).mono ?_
    rintro e w' ⟨rfl, rfl⟩
    go_wp2_with fail
    refine C2.out.mono ?_
    rintro e w2 ⟨u, rfl, ow, i2, k2⟩
    have R : Hid (TkStep w lo g .data bs er (.returned u) w2) := by
      have hsz := K1.out.size
      refine .inr ⟨.data (rawSt (n : Int) r e1).1, u, (rawSt (n : Int) r e1).2.1, (rawSt (n : Int) r e1).2.2, rfl, rfl, owns_SlIs (owns_base ow hsz), i2, K1.out.trans k2 (fun _ _ h => h), Nat.le_trans (rawSt_len2 _ _ _) hln, fun hr => ?_, fun hr => ?_⟩
      · have h1 : e1 = 0 := Decidable.byContradiction fun hn => by
          rw [rawSt, if_pos hn] at hr
          exact hn hr
        obtain ⟨a, b⟩ := HZ.out h1
        rw [h1] at hr ⊢
        rw [HE.out, if_pos a, b, Option.bind_some, if_neg hbig, tkRaw, if_pos hr]
        rfl
      · rw [HE.out]
        split
        · rename_i h0
          by_cases h1 : e1 = 0
          · obtain ⟨a, b⟩ := HZ.out h1
            rw [h1] at hr
            rw [b, Option.bind_some, if_neg hbig, tkRaw, if_neg hr]
            rfl
          · rw [HN.out (by rw [H0.out h0]; exact h1)]
            rfl
        · rfl
    obtain ⟨A, c, rfl, _⟩ := owns_slice ow
    clear C2 ow i2 k2 K1 HE HZ HN H0
    go_wp2
    go_ret
    exact R.out
end Go.Proofs.YtepiifbleoimkaaGreatDoor
namespace Go.Proofs.YtepiifbleoimkaaGreatDoor
open Go.RowKit
set_option maxRecDepth 100000

theorem tkRec_yes {b : List UInt8} {s : S11} (h : tkRec b = some s) : decAns b = (s, (b.length : Int), 0) := by
  unfold tkRec at h
  split at h
  · rename_i s' hf
    injection h with h
    subst h
    unfold decAns
    rw [hf]
    simp
  · cases h
theorem tkRec_no {b : List UInt8} (h : tkRec b = none) : (decAns b).2.2 ≠ 0 ∨ (decAns b).2.1 ≠ (b.length : Int) := by
  unfold tkRec at h
  unfold decAns
  cases hf : firstOf b with
  | error er =>
    left
    simp only
    rcases firstOf_err hf with h | h <;> omega
  | ok p =>
    obtain ⟨s, rest⟩ := p
    rw [hf] at h
    cases rest with
    | nil => cases h
    | cons c r =>
      right
      simp only [List.length_cons]
      omega
theorem firstOf_nil : firstOf [] = .error 4 := rfl
theorem tkRec_nil : tkRec [] = none := rfl

set_option maxHeartbeats 1000000 in
theorem tkrecord_any (lo g : Nat) (bs : List UInt8) (er : Int) (w : World) (hI : InAt w lo g bs er) (hT : Tabs w) (hg : 1 < g ∧ 2 < g) (hb : bs.length ≤ 100000) :
    Calls Tryz.prog 68 #[.pointer (some ⟨g, 0, none⟩)] w (TkStep w lo g .stat bs er) := by
  have hgl := hI.lt
  have k0 : Only (fun _ => False) w (w.alloc (.cells S11.zero.cells 32)) := (Only.refl _ w).alloc _
  have r0 : Has (w.alloc (.cells S11.zero.cells 32)) w.heap.size 32 S11.zero.cells := Has.new _ _ _
  have c1 := take_any lo g 2 bs er (w.alloc (.cells S11.zero.cells 32)) (hI.only k0 (fun _ _ _ h => h))
  have C1 : Hid (Calls Tryz.prog 36 #[.pointer (some ⟨g, 0, none⟩), .int .i64 2] (w.alloc (.cells S11.zero.cells 32)) (fun e w' => e = .returned (.int .u64 (takeSt 2 bs er).1) ∧ InAt w' lo g (takeSt 2 bs er).2.1 (takeSt 2 bs er).2.2 ∧ Only (fun i => i = g) w w' ∧ Has w' w.heap.size 32 S11.zero.cells)) :=
    Lib.hid (c1.mono (by
      rintro e w' ⟨he, i1, f1⟩
      exact ⟨he, i1, (k0.mono (fun _ _ h => h.elim)).trans f1 (fun _ _ h => h), r0.only f1 (by omega)⟩))
  have hlt := takeSt_lt 2 bs er
  have hln := takeSt_len 2 bs er
  have hz := @tkN_of 2 bs er
  have hno := @tkN_none 2 bs
  have hE : tkE .stat bs er = if er = 0 then ((tkN 2 bs).bind fun n => (tkRaw n.1 n.2).bind fun x => (tkRec x.1).map fun s => (.stat s, x.2)) else none := rfl
  have h00 : er = 0 → takeSt ((2 : Nat) : Int) bs 0 = takeSt ((2 : Nat) : Int) bs er := fun h => by rw [h]
  have HT := Lib.hid (fun w' (k : Only (fun i => i = g) w w') => hT.only k (by omega) (by omega))
  obtain ⟨st, hst⟩ : ∃ s, s = takeSt 2 bs er := ⟨_, rfl⟩
  rw [show takeSt ((2 : Nat) : Int) bs er = st from hst.symm] at hlt hz h00
  rw [← hst] at C1 hln
  obtain ⟨n, r, e1⟩ := st
  simp only at C1 hlt hz hln
  have hwu : IntKind.i64.wrap (n : Int) = (n : Int) := IntWalk.i64_in _ (by omega)
  have hr1 := rawSt_len (n : Int) r e1
  have hr2 := rawSt_len2 (n : Int) r e1
  -- what the record's bytes make of it
  have hY : ∀ s, tkRec (rawSt (n : Int) r e1).1 = some s → (rawSt (n : Int) r e1).2.2 = 0 ∧ tkE .stat bs er = some (.stat s, (rawSt (n : Int) r e1).2.1) := by
    intro s hs
    by_cases h2 : (rawSt (n : Int) r e1).2.2 = 0
    · refine ⟨h2, ?_⟩
      have h1 : e1 = 0 := Decidable.byContradiction fun hn => by
        rw [rawSt, if_pos hn] at h2
        exact hn h2
      obtain ⟨a, b⟩ := hz h1
      rw [h1] at h2 hs ⊢
      rw [hE, if_pos a, b, Option.bind_some, tkRaw, if_pos h2, Option.bind_some, hs]
      rfl
    · have : (rawSt (n : Int) r e1).1 = [] := by
        unfold rawSt at h2 ⊢
        split
        · rfl
        · split
          · rfl
          · split
            · rfl
            · rename_i a b c
              rw [if_neg a, if_neg b, if_neg c] at h2
              exact absurd rfl h2
      rw [this, tkRec_nil] at hs
      cases hs
  have hX : tkRec (rawSt (n : Int) r e1).1 = none → tkE .stat bs er = none := by
    intro hs
    rw [hE]
    split
    · rename_i h0
      by_cases h1 : e1 = 0
      · obtain ⟨a, b⟩ := hz h1
        rw [b, Option.bind_some]
        rw [h1] at hs
        unfold tkRaw
        split
        · rw [Option.bind_some, hs]
          rfl
        · rfl
      · rw [hno (by rw [h00 h0]; exact h1)]
        rfl
    · rfl
  have HY := Lib.hid hY
  have HX := Lib.hid hX
  clear hI hT k0 r0 c1 hst hz hno hE h00 hY hX
  unfold S11.zero S11.cells at C1
  go_enter Tryz.func68, Tryz.ntmps68
  go_wp2_with fail
  refine C1.out.mono ?_
  rintro e w1 ⟨rfl, i1, k1, r1⟩
  have C2 := Lib.hid (raw_any lo g (n : Int) r e1 w1 i1 (by omega))
  have K1 := Lib.hid k1
  have R1 : Hid (Has w1 w.heap.size 32 S11.zero.cells) := r1
  clear i1 k1 r1 C1
  go_wp2_with fail
  refine C2.out.mono ?_
  rintro e w2 ⟨u, rfl, ow, i2, k2⟩
  have K2 : Hid (Only (fun i => i = g) w w2) := K1.out.trans k2 (fun _ _ h => h)
  have R2 := Lib.hid (R1.out.only k2 (by omega))
  have I2 := Lib.hid i2
  generalize rawSt (n : Int) r e1 = sr at I2 ow HY HX hr1 hr2
  obtain ⟨b, r2, e2⟩ := sr
  simp only at I2 ow HY HX hr1 hr2
  have C4 := decode_any u b _ _ w2 (owns_SlIs ow) (Nat.le_refl _) (by omega) (HT.out _ K2.out)
  obtain ⟨A, c, rfl, _⟩ := owns_slice ow
  unfold DecodeStep at C4
  have hy := @tkRec_yes b
  have hno := @tkRec_no b
  generalize decAns b = da at C4 hy hno
  obtain ⟨s, m, ec⟩ := da
  simp only at C4 hy hno
  unfold S11.val at C4
  have C4 := Lib.hid C4
  clear ow i2 k2 K1 R1 C2 HT
  go_wp2_with fail
  refine C4.out.mono ?_
  rintro e w3 ⟨rfl, b3⟩
  have hs2 := K2.out.size
  have K3 : Hid (Only (fun i => i = g) w w3) := K2.out.trans (Only.of_below b3) (fun i hi h => by omega)
  have R3 := R2.out.only (Only.of_below b3) (by have := R2.out.lt; omega)
  have I3 := I2.out.only (Only.of_below b3) (fun i _ hi h => by have := I2.out.lt; omega)
  obtain ⟨W, hW⟩ : ∃ W, W = w3.alloc (.cells s.cells 32) := ⟨_, rfl⟩
  have R4 : Hid (Has W w.heap.size 32 S11.zero.cells) := by rw [hW]; exact R3.alloc _
  have I4 : Hid (InAt W lo g r2 e2) := by rw [hW]; exact I3.only ((Only.refl (fun _ => False) w3).alloc _) (fun _ _ _ h => h)
  have K4 : Hid (Only (fun i => i = g) w W) := by rw [hW]; exact K3.out.alloc _
  have N4 : Hid (Has W w3.heap.size 32 s.cells) := by rw [hW]; exact Has.new _ _ _
  have hW3 : w.heap.size < w3.heap.size := R3.lt
  clear C4 b3 K2 R2 I2 R3 I3 K3
  cases hr : tkRec b with
  | some x =>
    have hd := hy hr
    injection hd with hd1 hd2
    injection hd2 with hd2 hd3
    subst hd1 hd2 hd3
    obtain ⟨h0, ht⟩ := HY.out _ hr
    subst h0
    have Ht := Lib.hid ht
    clear hy hno HY HX hr ht
    unfold S11.cells at hW
    unfold S11.cells
    go_wp2_with fail
    rw [← hW]
    refine (must_yes 2 W).mono ?_
    rintro e w' ⟨rfl, rfl⟩
    have a1 := N4.out.cells13
    obtain ⟨⟨x0, x1, x2, x3, x4⟩, ⟨x5, x6, x7, x8⟩, ⟨x9, x10, x11, x12⟩⟩ := a1
    obtain ⟨⟨z0, z1, z2, z3, z4⟩, ⟨z5, z6, z7, z8⟩, ⟨z9, z10, z11, z12⟩⟩ := R4.out.cells13
    obtain ⟨⟨y0, y1, y2, y3, y4⟩, ⟨y5, y6, y7, y8⟩, ⟨y9, y10, y11, y12⟩⟩ := R4.out.frozen13
    clear hW N4
    go_wp2_with fail
    refine bodyPost_ret (results_cell_row rfl _ _ w.heap.size 32 _ (0, 0) _ rfl (has_set13 R4.out s) Tryz.underlying32 rfl Tryz.statSize13) rfl ?_
    refine .inr ⟨.stat s, _, r2, 0, rfl, rfl, rfl, ?_, K4.out.set13 (fun h => absurd h (Nat.lt_irrefl _)) s, by omega, fun _ => Ht.out, fun h => absurd rfl h⟩
    exact I4.out.only ((Only.refl (fun i => i = w.heap.size) W).set13 (fun _ => rfl) s) (fun i _ hi h => by omega)
  | none =>
    have R : Hid (TkStep w lo g .stat bs er (.panicked [{ v := .iface 35 (.int .i64 2), recovered := false }]) W) := .inl ⟨rfl, K4.out, HX.out hr⟩
    have hq := hno hr
    clear hy hno HY HX hr K4 I4 R4 N4
    by_cases h0 : ec = 0
    · subst h0
      have hm : (m == (b.length : Int)) = false := by
        rcases hq with h | h
        · exact absurd rfl h
        · simpa using h
      clear hq
      unfold S11.cells at hW
      unfold S11.cells
      go_wp2_with fail
      rw [← hW]
      refine (must_no 2 W).mono ?_
      rintro e w' ⟨rfl, rfl⟩
      clear hW
      go_wp2
      exact ⟨rfl, R.out⟩
    · have hd : (ec == 0) = false := by simpa using h0
      clear hq h0
      unfold S11.cells at hW
      unfold S11.cells
      go_wp2_with fail
      rw [← hW]
      refine (must_no 2 W).mono ?_
      rintro e w' ⟨rfl, rfl⟩
      clear hW
      go_wp2
      exact ⟨rfl, R.out⟩
end Go.Proofs.YtepiifbleoimkaaGreatDoor
namespace Go.Proofs.YtepiifbleoimkaaGreatDoor
open Go.RowKit
set_option maxRecDepth 100000

def preM {α : Type} (L : List α) (r : Option (List α × List UInt8)) : Option (List α × List UInt8) := r.map fun y => (L ++ y.1, y.2)
theorem preM_nil {α : Type} (r : Option (List α × List UInt8)) : preM [] r = r := by cases r <;> rfl
theorem tkMany_step {α : Type} {one : List UInt8 → Option (α × List UInt8)} {bs r : List UInt8} {x : α} {L : List α} {k : Nat} (h : one bs = some (x, r)) : preM L (tkMany one (k + 1) bs) = preM (L ++ [x]) (tkMany one k r) := by
  rw [tkMany, h, Option.bind_some]
  cases tkMany one k r <;> simp [preM]
theorem tkMany_stop {α : Type} {one : List UInt8 → Option (α × List UInt8)} {bs : List UInt8} {L : List α} {k : Nat} (h : one bs = none) : preM L (tkMany one (k + 1) bs) = none := by
  rw [tkMany, h]
  rfl
def strsV (L : List (List UInt8)) : List Value := L.map fun l => Value.string (strOf l)
def qidV (q : Q3) : List Value := [.int .u8 (q.t : Int), .int .u32 (q.v : Int), .int .u64 (q.p : Int)]
def qidsV (Q : List Q3) : List Value := Q.flatMap qidV
theorem strsV_length (L : List (List UInt8)) : (strsV L).length = L.length := by simp [strsV]
theorem qidsV_length (L : List Q3) : (qidsV L).length = 3 * L.length := by
  induction L with
  | nil => rfl
  | cons q L ih =>
    have e : qidsV (q :: L) = qidV q ++ qidsV L := by simp [qidsV]
    rw [e, List.length_append, ih, List.length_cons]
    simp [qidV]
    omega
theorem qidsV_get (L : List Q3) (i j : Nat) (hi : i < L.length) (hj : j < 3) : (qidsV L)[i * 3 + j]? = (qidV L[i])[j]? := by
  induction L generalizing i with
  | nil => simp at hi
  | cons q L ih =>
    have e : qidsV (q :: L) = qidV q ++ qidsV L := by simp [qidsV]
    have hl : (qidV q).length = 3 := rfl
    rw [e]
    cases i with
    | zero =>
      rw [List.getElem?_append_left (by omega)]
      simp
    | succ i =>
      rw [List.getElem?_append_right (by omega), hl, show (i + 1) * 3 + j - 3 = i * 3 + j from by omega, ih i (by simpa using hi)]
      simp
theorem owns_strs {w : World} {B : Nat} {v : Value} {L : List (List UInt8)} (h : w.ownsRow B 9 1 v L.length (strsV L)) : StrsAt w B w.heap.size v L := by
  rcases id h.2 with ⟨rfl, h0⟩ | ⟨g, cap, cur, rfl, _, _, h1, h2, _⟩
  · exact ⟨none, 0, by rw [h0], by omega, by simp [maxLen], fun hn => by omega⟩
  · refine ⟨_, cap, rfl, h1, h2, fun hn => ?_⟩
    obtain ⟨g', cap', hv, hb, hlt⟩ := h.form (by omega)
    injection hv with hA
    injection hA with hA
    injection hA with hA
    subst hA
    refine ⟨⟨g, 0, none⟩, rfl, hb, hlt, fun j hj => h.cells (g := g) rfl j _ ?_⟩
    simp [strsV, hj]
theorem owns_qids {w : World} {B : Nat} {v : Value} {t : TypeId} {L : List Q3} (h : w.ownsRow B t 3 v L.length (qidsV L)) : QdsAt w B w.heap.size v L := by
  rcases id h.2 with ⟨rfl, h0⟩ | ⟨g, cap, cur, rfl, _, _, h1, h2, _⟩
  · exact ⟨none, 0, by rw [h0], by omega, by simp [maxLen], fun hn => by omega⟩
  · refine ⟨_, cap, rfl, h1, h2, fun hn => ?_⟩
    obtain ⟨g', cap', hv, hb, hlt⟩ := h.form (by omega)
    injection hv with hA
    injection hA with hA
    injection hA with hA
    subst hA
    have hc := h.cells (g := g) rfl
    have e : ∀ k, (⟨g, 0, none⟩ : Addr).add k = ⟨g, k, none⟩ := fun k => by unfold Addr.add; split <;> simp_all
    refine ⟨⟨g, 0, none⟩, rfl, hb, hlt, fun j hj => ?_⟩
    have a0 := hc (j * 3 + 0) _ (by rw [qidsV_get L j 0 hj (by omega)]; rfl)
    have a1 := hc (j * 3 + 1) _ (by rw [qidsV_get L j 1 hj (by omega)]; rfl)
    have a2 := hc (j * 3 + 2) _ (by rw [qidsV_get L j 2 hj (by omega)]; rfl)
    rw [e] at a0 a1 a2
    rw [e]
    exact ⟨a0, a1, a2⟩
theorem Tryz.infoString : (Tryz.prog.info? 9).map (fun i => (i.zero, i.size, i.bytes)) = some (some (.string ⟨#[]⟩), 1, 16) := by kernel_rfl
theorem Tryz.infoQid : (Tryz.prog.info? 30).map (fun i => (i.zero, i.size, i.bytes)) = some (some Q3.zero.val, 3, 16) := by kernel_rfl
theorem Tryz.enterTakeText5 : ∀ args w, (callFunc 63 args).run Tryz.prog w = .ok (.enter 63 args) w := enters_of Tryz.func63 (by kernel_rfl) rfl
theorem Tryz.enterTakeQid : ∀ args w, (callFunc 65 args).run Tryz.prog w = .ok (.enter 65 args) w := enters_of Tryz.func65 (by kernel_rfl) rfl

/-- At the loop's head: j texts are taken. -/
structure LInv (w : World) (lo g : Nat) (r0 : Option (List (List UInt8) × List UInt8)) (n m e1 : Int) (L : List (List UInt8)) (rest : List UInt8) (v : Value) (wr : World) : Prop where
  inn : InAt wr lo g rest e1
  own : wr.ownsRow w.heap.size 9 1 v L.length (strsV L)
  low : Only (fun i => i = g) w wr
  all : r0 = preM L (tkMany (fun b => textSt b 0) (n - L.length).toNat rest)
  few : (rest.length : Int) ≤ m
theorem LInv.step {w wr w2 w3 : World} {lo g : Nat} {r0 : Option (List (List UInt8) × List UInt8)} {n m : Int} {L : List (List UInt8)} {rest r2 t : List UInt8} {v v' : Value} (I : LInv w lo g r0 n m 0 L rest v wr) (hg : lo ≤ g ∧ g < w.heap.size) (hn : (L.length : Int) < n)
    (ht : textSt rest 0 = some (t, r2)) (i2 : InAt w2 lo g r2 0) (k2 : Only (fun i => i = g) wr w2)
    (hown : w3.ownsRow w.heap.size 9 1 v' (L.length + 1) (strsV L ++ [.string (strOf t)])) (hgr : (w2.alloc (.cells #[.string (strOf t)] 9)).grownBy w3 v.ownBlock) :
    LInv w lo g r0 n m 0 (L ++ [t]) r2 v' w3 := by
  have hs := I.low.size
  have hs2 := k2.size
  have hnb : ∀ i, v.ownBlock = some i → w.heap.size ≤ i := fun i hi => (I.own.lt i hi).1
  have k3 : Only (fun i => some i = v.ownBlock) w2 w3 := ((Only.refl (fun i => some i = v.ownBlock) w2).alloc _).trans (Only.of_grown hgr) (fun _ _ h => h)
  refine ⟨i2.only k3 (fun i _ hi h => by have := hnb i h.symm; omega), by simpa [strsV] using hown, (I.low.trans k2 (fun _ _ h => h)).trans k3 (fun i hi h => by have := hnb i h.symm; omega), ?_, ?_⟩
  · rw [I.all, show (n - (L.length : Int)).toNat = (n - ((L ++ [t]).length : Int)).toNat + 1 from by rw [List.length_append, List.length_singleton]; omega]
    exact tkMany_step ht
  · have := textSt_len ht
    have := I.few
    omega

set_option maxHeartbeats 2000000 in
theorem tklists_any (lo g : Nat) (bs : List UInt8) (er : Int) (w : World) (hI : InAt w lo g bs er) (hT : Tabs w) (hg : 1 < g ∧ 2 < g) (hb : bs.length ≤ 100000) :
    Calls Tryz.prog 64 #[.pointer (some ⟨g, 0, none⟩), .func (.func 63) #[] #[]] w (TkStep w lo g .texts bs er) := by
  have C := Lib.hid (take_any lo g 2 bs er w hI)
  have hlt := takeSt_lt 2 bs er
  have hln := takeSt_len 2 bs er
  have hz := @tkN_of 2 bs er
  have hz2 := @takeSt_bad1 2 bs er
  have hno := @tkN_none 2 bs
  have hE : tkE .texts bs er = if er = 0 then ((tkN 2 bs).bind fun n => if 16 < n.1 then none else (tkMany (fun b => textSt b 0) n.1 n.2).map fun x => (.texts x.1, x.2)) else none := rfl
  have h00 : er = 0 → takeSt ((2 : Nat) : Int) bs 0 = takeSt ((2 : Nat) : Int) bs er := fun h => by rw [h]
  obtain ⟨s, hs⟩ : ∃ s, s = takeSt 2 bs er := ⟨_, rfl⟩
  rw [show takeSt ((2 : Nat) : Int) bs er = s from hs.symm] at hlt hz h00
  rw [← hs] at C hz2 hln
  obtain ⟨n, r, e1⟩ := s
  simp only at C hlt hz hz2 hln
  have hgl := hI.lt
  have HT := Lib.hid (fun w' (k : Only (fun i => i = g) w w') => hT.only k (by omega) (by omega))
  clear hs hI hT
  by_cases hbig : 16 < n
  · have hd : decide ((n : Int) ≤ 16) = false := decide_eq_false (by omega)
    have h1 : e1 = 0 := Decidable.byContradiction fun hn => by have := hz2 hn; omega
    have hN : Hid (tkE .texts bs er = none) := by
      obtain ⟨a, b⟩ := hz h1
      refine Lib.hid ?_
      rw [hE, if_pos a, b]
      simp [hbig]
    clear hE h00 hz hz2 hno hbig
    go_enter Tryz.func64, Tryz.ntmps64
    go_wp2_with fail
    refine C.out.mono ?_
    rintro e w1 ⟨rfl, i1, k1⟩
    have R : Hid (TkStep w lo g .texts bs er (.panicked [{ v := .iface 35 (.int .i64 2), recovered := false }]) w1) := .inl ⟨rfl, k1, hN.out⟩
    clear C i1 k1 hN
    go_wp2_with fail
    refine (must_no 2 w1).mono ?_
    rintro e w' ⟨rfl, rfl⟩
    go_wp2
    exact ⟨rfl, R.out⟩
  · have hd : decide ((n : Int) ≤ 16) = true := decide_eq_true (by omega)
    have hn16 : n ≤ 16 := by omega
    -- what is told behind the loop, and where it stops
    have HR : Hid (∀ L rest, tkMany (fun b => textSt b 0) n r = some (L, rest) → e1 = 0 → tkE .texts bs er = some (.texts L, rest)) := by
      intro L rest h h1
      obtain ⟨a, b⟩ := hz h1
      rw [hE, if_pos a, b, Option.bind_some, if_neg hbig]
      simp only
      rw [h]
      rfl
    have HS : Hid (tkMany (fun b => textSt b 0) n r = none → tkE .texts bs er = none) := by
      intro h
      rw [hE]
      split
      · rename_i h0
        by_cases h1 : e1 = 0
        · obtain ⟨a, b⟩ := hz h1
          rw [b, Option.bind_some, if_neg hbig]
          simp only
          rw [h]
          rfl
        · rw [hno (by rw [h00 h0]; exact h1)]
          rfl
      · rfl
    have HX : Hid (e1 ≠ 0 → tkE .texts bs er = none) := by
      intro h1
      rw [hE]
      split
      · rename_i h0
        rw [hno (by rw [h00 h0]; exact h1)]
        rfl
      · rfl
    have HZ2 := Lib.hid hz2
    have eg := Tryz.enterTakeText5
    obtain ⟨i0', hi0, hz0, hz1, hz22⟩ := info_parts Tryz.infoString
    clear hE hz hno h00 hz2
    go_enter Tryz.func64, Tryz.ntmps64
    go_wp2_with fail
    refine C.out.mono ?_
    rintro e w1 ⟨rfl, i1, k1⟩
    have I0 : Hid (LInv w lo g (tkMany (fun b => textSt b 0) n r) n bs.length e1 [] r (.slice none 0 0) w1) := ⟨i1, World.ownsRow_nil _ _ _ _, k1, by rw [preM_nil]; simp, by omega⟩
    clear C i1 k1
    go_wp2_with fail
    refine (must_yes 2 w1).mono ?_
    rintro e w' ⟨rfl, rfl⟩
    go_wp2_with fail
    go_loopw [6, 13] (fun u i wr => ∃ L rest, L.length ≤ n ∧ i = .int .u64 (L.length : Nat) ∧ Hid (LInv w lo g (tkMany (fun b => textSt b 0) n r) n bs.length e1 L rest u wr)) (fun _ i _ => n - (intOf i).toNat)
    case atStart => exact ⟨[], r, Nat.zero_le _, rfl, I0⟩
    case round =>
      obtain ⟨L, rest, hj, rfl, hrel⟩ := hrel
      clear I0
      by_cases hlt' : L.length < n
      · have h1 : e1 = 0 := Decidable.byContradiction fun hn => by have := HZ2.out hn; omega
        subst h1
        have i1 : ((L.length : Nat) : Int) < (n : Int) := by omega
        have hlow := hrel.out.low
        have hfew := hrel.out.few
        have C := Lib.hid (taketext5_any lo g rest 0 wr hrel.out.inn (HT.out _ hlow) (by omega) (by omega) (by omega))
        have hsz := hlow.size
        clear hlow hfew
        go_wp2_with fail
        go_at_fn 63
        refine C.out.mono ?_
        intro e w2 st
        cases hr : textSt rest 0 with
        | none =>
          rw [hr] at st
          obtain ⟨rfl, k2⟩ := st
          have R : Hid (TkStep w lo g .texts bs er (.panicked [{ v := .iface 35 (.int .i64 2), recovered := false }]) w2) := by
            refine .inl ⟨rfl, hrel.out.low.trans k2 (fun _ _ h => h), HS.out ?_⟩
            rw [hrel.out.all, show ((n : Int) - (L.length : Int)).toNat = (n - L.length - 1) + 1 from by omega]
            exact tkMany_stop hr
          clear C k2 hr hrel HR HS HX HT HZ2
          go_wp2
          exact ⟨rfl, R.out⟩
        | some p =>
          obtain ⟨t, r2⟩ := p
          rw [hr] at st
          obtain ⟨rfl, i2, k2⟩ := st
          have hnb : ∀ i, u6.ownBlock = some i → w.heap.size ≤ i := fun i hi => (hrel.out.own.lt i hi).1
          have hs2 := k2.size
          have hown := owns_only (owns_only hrel.out.own k2 (fun i hi h => by have := hnb i hi; omega)) ((Only.refl (fun _ => False) w2).alloc (.cells #[.string (strOf t)] 9)) (fun _ _ h => h)
          have HN := Lib.hid hown
          have HF := Lib.hid (fun (v' : Value) (w3 : World) a b => LInv.step (v' := v') (w3 := w3) hrel.out ⟨hgl.1, hgl.2⟩ (by omega) hr i2 k2 a b)
          clear C k2 hr hrel i2 hown hnb
          go_wp2_with (at_builtin; go_must (refine wpList_append_lies _ rfl (.tmp 15) (.tmp 19) 26 rfl w.heap.size 9 i0' _ 1 16 Tryz.underlying26 hi0 hz0 hz1 hz22 rfl (by omega) _ _ _ rfl HN.out ⟨w2.heap.size, 0, none⟩ 1 1 [.string (strOf t)] rfl rfl (World.news_of_block (cs := #[.string (strOf t)]) (t := 9) (fr := (0, 0)) (heap_alloc_new w2 _)) (by simp [Value.oneCell']) (by omega) (by simp only [maxLen]; omega) (by omega) (by simp; omega) (w2.heap.size + 1) (by simp) ?_))
          intro gg cap w' h1 h2 _ _
          have R := Lib.hid (HF.out _ w' h1 h2)
          clear h1 h2 HF HN
          go_wp2
          go_roundw
          case rel => exact ⟨L ++ [t], r2, by simp; omega, by rw [List.length_append, List.length_singleton]; go_num, R⟩
          case measure => simp [intOf]; omega
      · have hj4 : n = L.length := by omega
        have hinn := hrel.out.inn
        have i1 : ¬ ((L.length : Nat) : Int) < (n : Int) := by omega
        have hall : tkMany (fun b => textSt b 0) n r = some (L, rest) := by
          rw [hrel.out.all, show ((n : Int) - (L.length : Int)).toNat = 0 from by omega]
          simp [preM, tkMany]
        have R : Hid (TkStep w lo g .texts bs er (.returned u6) wr) :=
          .inr ⟨.texts L, u6, rest, e1, rfl, rfl, owns_strs hrel.out.own, hinn, hrel.out.low, by have := hrel.out.few; omega, fun h1 => HR.out L rest hall h1, fun h1 => HX.out h1⟩
        clear hinn hall hrel HR HS HX HT HZ2 hj4
        go_wp2
        go_ret
        exact R.out

theorem qTake_bad {bs : List UInt8} {er : Int} (h : er ≠ 0) : (qTake bs er).2.2 ≠ 0 := by
  unfold qTake
  simp only
  exact takeSt_bad (takeSt_bad (takeSt_bad h))
/-- At the loop's head: j qids are taken. -/
structure QInv (w : World) (lo g : Nat) (r0 : Option (List Q3 × List UInt8)) (n m e1 : Int) (L : List Q3) (rest : List UInt8) (er : Int) (v : Value) (wr : World) : Prop where
  inn : InAt wr lo g rest er
  own : wr.ownsRow w.heap.size 30 3 v L.length (qidsV L)
  low : Only (fun i => i = g) w wr
  yes : er = 0 → r0 = preM L (tkMany tkQ (n - L.length).toNat rest)
  no : er ≠ 0 → e1 ≠ 0 ∨ r0 = none
  stay : e1 ≠ 0 → er ≠ 0
  few : (rest.length : Int) ≤ m
theorem QInv.step {w wr w2 w3 : World} {lo g : Nat} {r0 : Option (List Q3 × List UInt8)} {n m er : Int} {L : List Q3} {rest : List UInt8} {v v' : Value} {t : Q3} {r2 : List UInt8} {e2 : Int} (I : QInv w lo g r0 n m 0 L rest er v wr) (hg : lo ≤ g ∧ g < w.heap.size) (hn : (L.length : Int) < n)
    (ht : qTake rest er = (t, r2, e2)) (i2 : InAt w2 lo g r2 e2) (k2 : Only (fun i => i = g) wr w2)
    (hown : w3.ownsRow w.heap.size 30 3 v' (L.length + 1) (qidsV L ++ qidV t)) (hgr : (w2.alloc (.cells #[.int .u8 (t.t : Int), .int .u32 (t.v : Int), .int .u64 (t.p : Int)] 30)).grownBy w3 v.ownBlock) :
    QInv w lo g r0 n m 0 (L ++ [t]) r2 e2 v' w3 := by
  have hs := I.low.size
  have hs2 := k2.size
  have hnb : ∀ i, v.ownBlock = some i → w.heap.size ≤ i := fun i hi => (I.own.lt i hi).1
  have k3 : Only (fun i => some i = v.ownBlock) w2 w3 := ((Only.refl (fun i => some i = v.ownBlock) w2).alloc _).trans (Only.of_grown hgr) (fun _ _ h => h)
  refine ⟨i2.only k3 (fun i _ hi h => by have := hnb i h.symm; omega), by simpa [qidsV] using hown, (I.low.trans k2 (fun _ _ h => h)).trans k3 (fun i hi h => by have := hnb i h.symm; omega), ?_, ?_, fun h => absurd rfl h, ?_⟩
  · intro h0
    have her : er = 0 := Decidable.byContradiction fun hn => by
      have := qTake_bad (bs := rest) hn
      rw [ht] at this
      exact this h0
    rw [I.yes her, show (n - (L.length : Int)).toNat = (n - ((L ++ [t]).length : Int)).toNat + 1 from by rw [List.length_append, List.length_singleton]; omega]
    refine tkMany_step ?_
    rw [her] at ht
    rw [tkQ, ht]
    simp [h0]
  · intro h0
    right
    by_cases her : er = 0
    · rw [I.yes her, show (n - (L.length : Int)).toNat = (n - (L.length : Int) - 1).toNat + 1 from by omega]
      refine tkMany_stop ?_
      rw [her] at ht
      rw [tkQ, ht]
      simp [h0]
    · rcases I.no her with h | h
      · exact absurd rfl h
      · exact h
  · have := qTake_len rest er
    rw [ht] at this
    have := I.few
    simp only at *
    omega

set_option maxHeartbeats 2000000 in
theorem tklistq_any (lo g : Nat) (bs : List UInt8) (er : Int) (w : World) (hI : InAt w lo g bs er) :
    Calls Tryz.prog 66 #[.pointer (some ⟨g, 0, none⟩), .func (.func 65) #[] #[]] w (TkStep w lo g .qids bs er) := by
  have C := Lib.hid (take_any lo g 2 bs er w hI)
  have hlt := takeSt_lt 2 bs er
  have hln := takeSt_len 2 bs er
  have hz := @tkN_of 2 bs er
  have hz2 := @takeSt_bad1 2 bs er
  have hno := @tkN_none 2 bs
  have hE : tkE .qids bs er = if er = 0 then ((tkN 2 bs).bind fun n => if 16 < n.1 then none else (tkMany tkQ n.1 n.2).map fun x => (.qids x.1, x.2)) else none := rfl
  have h00 : er = 0 → takeSt ((2 : Nat) : Int) bs 0 = takeSt ((2 : Nat) : Int) bs er := fun h => by rw [h]
  obtain ⟨s, hs⟩ : ∃ s, s = takeSt 2 bs er := ⟨_, rfl⟩
  rw [show takeSt ((2 : Nat) : Int) bs er = s from hs.symm] at hlt hz h00
  rw [← hs] at C hz2 hln
  obtain ⟨n, r, e1⟩ := s
  simp only at C hlt hz hz2 hln
  have hgl := hI.lt
  clear hs hI
  by_cases hbig : 16 < n
  · have hd : decide ((n : Int) ≤ 16) = false := decide_eq_false (by omega)
    have h1 : e1 = 0 := Decidable.byContradiction fun hn => by have := hz2 hn; omega
    have hN : Hid (tkE .qids bs er = none) := by
      obtain ⟨a, b⟩ := hz h1
      refine Lib.hid ?_
      rw [hE, if_pos a, b]
      simp [hbig]
    clear hE h00 hz hz2 hno hbig
    go_enter Tryz.func66, Tryz.ntmps66
    go_wp2_with fail
    refine C.out.mono ?_
    rintro e w1 ⟨rfl, i1, k1⟩
    have R : Hid (TkStep w lo g .qids bs er (.panicked [{ v := .iface 35 (.int .i64 2), recovered := false }]) w1) := .inl ⟨rfl, k1, hN.out⟩
    clear C i1 k1 hN
    go_wp2_with fail
    refine (must_no 2 w1).mono ?_
    rintro e w' ⟨rfl, rfl⟩
    go_wp2
    exact ⟨rfl, R.out⟩
  · have hd : decide ((n : Int) ≤ 16) = true := decide_eq_true (by omega)
    have hn16 : n ≤ 16 := by omega
    have HR : Hid (∀ L rest, tkMany tkQ n r = some (L, rest) → e1 = 0 → tkE .qids bs er = some (.qids L, rest)) := by
      intro L rest h h1
      obtain ⟨a, b⟩ := hz h1
      rw [hE, if_pos a, b, Option.bind_some, if_neg hbig]
      simp only
      rw [h]
      rfl
    have HS : Hid (tkMany tkQ n r = none → tkE .qids bs er = none) := by
      intro h
      rw [hE]
      split
      · rename_i h0
        by_cases h1 : e1 = 0
        · obtain ⟨a, b⟩ := hz h1
          rw [b, Option.bind_some, if_neg hbig]
          simp only
          rw [h]
          rfl
        · rw [hno (by rw [h00 h0]; exact h1)]
          rfl
      · rfl
    have HX : Hid (e1 ≠ 0 → tkE .qids bs er = none) := by
      intro h1
      rw [hE]
      split
      · rename_i h0
        rw [hno (by rw [h00 h0]; exact h1)]
        rfl
      · rfl
    have HZ2 := Lib.hid hz2
    have eg := Tryz.enterTakeQid
    obtain ⟨i0', hi0, hz0, hz1, hz22⟩ := info_parts Tryz.infoQid
    clear hE hz hno h00 hz2
    go_enter Tryz.func66, Tryz.ntmps66
    go_wp2_with fail
    refine C.out.mono ?_
    rintro e w1 ⟨rfl, i1, k1⟩
    have I0 : Hid (QInv w lo g (tkMany tkQ n r) n bs.length e1 [] r e1 (.slice none 0 0) w1) := ⟨i1, World.ownsRow_nil _ _ _ _, k1, fun _ => by rw [preM_nil]; simp, fun h => .inl h, fun h => h, by omega⟩
    clear C i1 k1
    go_wp2_with fail
    refine (must_yes 2 w1).mono ?_
    rintro e w' ⟨rfl, rfl⟩
    go_wp2_with fail
    go_loopw [6, 13] (fun u i wr => ∃ L rest er', L.length ≤ n ∧ i = .int .u64 (L.length : Nat) ∧ Hid (QInv w lo g (tkMany tkQ n r) n bs.length e1 L rest er' u wr)) (fun _ i _ => n - (intOf i).toNat)
    case atStart => exact ⟨[], r, e1, Nat.zero_le _, rfl, I0⟩
    case round =>
      obtain ⟨L, rest, er', hj, rfl, hrel⟩ := hrel
      clear I0
      by_cases hlt' : L.length < n
      · have h1 : e1 = 0 := Decidable.byContradiction fun hn => by have := HZ2.out hn; omega
        subst h1
        have i1 : ((L.length : Nat) : Int) < (n : Int) := by omega
        have C := qidtake_any lo g rest er' wr hrel.out.inn
        unfold QTakeStep at C
        have hsz := hrel.out.low.size
        have HF0 := Lib.hid (fun (w2 : World) (v' : Value) (w3 : World) (t : Q3) (r2 : List UInt8) (e2 : Int) ht i2 k2 a b => QInv.step (w2 := w2) (v' := v') (w3 := w3) (t := t) (r2 := r2) (e2 := e2) hrel.out ⟨hgl.1, hgl.2⟩ (by omega) ht i2 k2 a b)
        obtain ⟨st, hst⟩ : ∃ st, st = qTake rest er' := ⟨_, rfl⟩
        rw [← hst] at C HF0
        obtain ⟨t, r2, e2⟩ := st
        simp only at C
        unfold Q3.val at C
        have C := Lib.hid C
        clear hst
        go_wp2_with fail
        go_at_fn 65
        refine C.out.mono ?_
        rintro e w2 ⟨rfl, i2, k2⟩
        have hnb : ∀ i, u6.ownBlock = some i → w.heap.size ≤ i := fun i hi => (hrel.out.own.lt i hi).1
        have hs2 := k2.size
        have hown := owns_only (owns_only hrel.out.own k2 (fun i hi h => by have := hnb i hi; omega)) ((Only.refl (fun _ => False) w2).alloc (.cells #[.int .u8 (t.t : Int), .int .u32 (t.v : Int), .int .u64 (t.p : Int)] 30)) (fun _ _ h => h)
        have HN := Lib.hid hown
        have HF := Lib.hid (fun (v' : Value) (w3 : World) a b => HF0.out w2 v' w3 t r2 e2 rfl i2 k2 a b)
        clear C k2 hrel i2 hown hnb HF0
        go_wp2_with (at_builtin; go_must (refine wpList_append_lies _ rfl (.tmp 15) (.tmp 19) 27 rfl w.heap.size 30 i0' _ 3 16 Tryz.underlying27 hi0 hz0 hz1 hz22 rfl (by omega) _ _ _ rfl HN.out ⟨w2.heap.size, 0, none⟩ 1 1 (qidV t) rfl rfl (World.news_of_block (cs := #[.int .u8 (t.t : Int), .int .u32 (t.v : Int), .int .u64 (t.p : Int)]) (t := 30) (fr := (0, 0)) (heap_alloc_new w2 _)) (by simp [qidV, Value.oneCell']) (by omega) (by simp only [maxLen]; omega) (by omega) (by simp; omega) (w2.heap.size + 1) (by simp) ?_))
        intro gg cap w' h1 h2 _ _
        have R := Lib.hid (HF.out _ w' h1 h2)
        clear h1 h2 HF HN
        go_wp2
        go_roundw
        case rel => exact ⟨L ++ [t], r2, e2, by simp; omega, by rw [List.length_append, List.length_singleton]; go_num, R⟩
        case measure => simp [intOf]; omega
      · have hj4 : n = L.length := by omega
        have hinn := hrel.out.inn
        have i1 : ¬ ((L.length : Nat) : Int) < (n : Int) := by omega
        have hall : er' = 0 → tkMany tkQ n r = some (L, rest) := by
          intro h0
          rw [hrel.out.yes h0, show ((n : Int) - (L.length : Int)).toNat = 0 from by omega]
          simp [preM, tkMany]
        have R : Hid (TkStep w lo g .qids bs er (.returned u6) wr) := by
          refine .inr ⟨.qids L, u6, rest, er', rfl, rfl, owns_qids hrel.out.own, hinn, hrel.out.low, by have := hrel.out.few; omega, fun h1 => ?_, fun h1 => ?_⟩
          · exact HR.out L rest (hall h1) (Decidable.byContradiction fun hn => hrel.out.stay hn h1)
          · rcases hrel.out.no h1 with h | h
            · exact HX.out h
            · exact HS.out h
        clear hinn hall hrel HR HS HX HZ2 hj4
        go_wp2
        go_ret
        exact R.out
end Go.Proofs.YtepiifbleoimkaaGreatDoor
namespace Go.Proofs.YtepiifbleoimkaaGreatDoor
open Go.RowKit
set_option maxRecDepth 100000

def K.size : K → Nat
  | .qid => 3
  | .stat => 13
  | _ => 1
/-- What take leaves: the field at its place in the message, nothing else of it turned. -/
def TkF (w : World) (lo g mb off : Nat) (k : K) (bs : List UInt8) (er : Int) (cs : Array Value) (e : Ending) (w' : World) : Prop :=
  (e = .panicked [{ v := .iface 35 (.int .i64 2), recovered := false }] ∧ Only (fun i => i = g ∨ i = mb) w w' ∧ tkE k bs er = none) ∨
  (∃ f cs' bs' er', e = .returned (.tuple #[]) ∧ f.kind = k ∧ Has w' mb 34 cs' ∧ cs'.size = cs.size ∧ FAt w' w.heap.size w'.heap.size cs' off f ∧ (∀ i, i < off ∨ off + k.size ≤ i → cs'[i]? = cs[i]?) ∧
    InAt w' lo g bs' er' ∧ Only (fun i => i = g ∨ i = mb) w w' ∧ bs'.length ≤ bs.length ∧ (er' = 0 → tkE k bs er = some (f, bs')) ∧ (er' ≠ 0 → tkE k bs er = none))
theorem set_in {cs : Array Value} {off : Nat} (h : off < cs.size) (v : Value) : (cs.setIfInBounds off v)[off]? = some v := by simp [h]
theorem set_out {cs : Array Value} {off i : Nat} (h : i ≠ off) (v : Value) : (cs.setIfInBounds off v)[i]? = cs[i]? := Array.getElem?_setIfInBounds_ne (by omega)
/-- A field of one cell is stored. -/
theorem TkF.one {w w1 : World} {lo g mb off : Nat} {k : K} {bs bs' : List UInt8} {er er' : Int} {cs : Array Value} {f : F} {v : Value} (hk : k.size = 1) (hf : f.kind = k) (hm : Has w1 mb 34 cs) (ho : off < cs.size)
    (hfa : ∀ cs', cs'[off]? = some v → FAt (w1.setCell ⟨mb, off, none⟩ v) w.heap.size w1.heap.size cs' off f) (hI : InAt w1 lo g bs' er') (hg : g < mb) (hk1 : Only (fun i => i = g) w w1) (hl : bs'.length ≤ bs.length)
    (hy : er' = 0 → tkE k bs er = some (f, bs')) (hn : er' ≠ 0 → tkE k bs er = none) : TkF w lo g mb off k bs er cs (.returned (.tuple #[])) (w1.setCell ⟨mb, off, none⟩ v) := by
  have hs : (w1.setCell ⟨mb, off, none⟩ v).heap.size = w1.heap.size := by simp [World.setCell]
  refine .inr ⟨f, cs.setIfInBounds off v, bs', er', rfl, hf, hm.set off v, by simp, ?_, fun i hi => set_out (by omega) v, ?_, ?_, hl, hy, hn⟩
  · rw [hs]
    exact hfa _ (set_in ho v)
  · exact hI.only ((Only.refl (fun i => i = mb) w1).setCell (p := ⟨mb, off, none⟩) (fun _ => rfl) v) (fun i _ hi h => by omega)
  · exact (hk1.mono (T := fun i => i = g ∨ i = mb) (fun _ _ h => .inl h)).setCell (p := ⟨mb, off, none⟩) (fun _ => .inr rfl) v
theorem TkF.pan {w w1 : World} {lo g mb off : Nat} {k : K} {bs : List UInt8} {er : Int} {cs : Array Value} (hk1 : Only (fun i => i = g) w w1) (hn : tkE k bs er = none) :
    TkF w lo g mb off k bs er cs (.panicked [{ v := .iface 35 (.int .i64 2), recovered := false }]) w1 := .inl ⟨rfl, hk1.mono (fun _ _ h => .inl h), hn⟩
theorem has_at {w : World} {mb off : Nat} {cs : Array Value} (h : Has w mb 34 cs) (ho : off < cs.size) : w.cell? ⟨mb, off, none⟩ = some cs[off] ∧ w.frozen? ⟨mb, off, none⟩ = false := ⟨by rw [h.cell off]; simp [ho], h.frozen off⟩

/-- A number that is taken. -/
theorem num_yes {n : Nat} {bs : List UInt8} {er : Int} (h : (takeSt (n : Int) bs er).2.2 = 0) : tkE (.num n) bs er = some (.num n (takeSt (n : Int) bs er).1, (takeSt (n : Int) bs er).2.1) := by
  obtain ⟨a, b⟩ := tkN_of h
  rw [tkE, if_pos a, tkF, b]
  rfl
theorem num_no {n : Nat} {bs : List UInt8} {er : Int} (h : (takeSt (n : Int) bs er).2.2 ≠ 0) : tkE (.num n) bs er = none := by
  unfold tkE
  split
  · rename_i h0
    rw [h0] at h
    rw [tkF, tkN_none h]
    rfl
  · rfl
theorem qid_yes {bs : List UInt8} {er : Int} (h : (qTake bs er).2.2 = 0) : tkE .qid bs er = some (.qid (qTake bs er).1, (qTake bs er).2.1) := by
  have h0 : er = 0 := Decidable.byContradiction fun hn => qTake_bad hn h
  subst h0
  rw [tkE, if_pos rfl, tkF, tkQ, if_pos h]
  rfl
theorem qid_no {bs : List UInt8} {er : Int} (h : (qTake bs er).2.2 ≠ 0) : tkE .qid bs er = none := by
  unfold tkE
  split
  · rename_i h0
    rw [h0] at h
    rw [tkF, tkQ, if_neg h]
    rfl
  · rfl

set_option maxHeartbeats 1000000 in
theorem take_u8 (lo g mb off : Nat) (bs : List UInt8) (er : Int) (cs : Array Value) (w : World) (hI : InAt w lo g bs er) (hm : Has w mb 34 cs) (hg : g < mb) (ho : off < cs.size) :
    Calls Tryz.prog 37 #[.pointer (some ⟨g, 0, none⟩), .iface 100 (.pointer (some ⟨mb, off, none⟩))] w (TkF w lo g mb off (.num 1) bs er cs) := by
  have C := Lib.hid (take_any lo g 1 bs er w hI)
  have hlt := takeSt_lt 1 bs er
  have hln := takeSt_len 1 bs er
  have hy := @num_yes 1 bs er
  have hn := @num_no 1 bs er
  have HM := Lib.hid hm
  have a0 := Tryz.as_u8_u8 ⟨mb, off, none⟩
  obtain ⟨st, hst⟩ : ∃ s, s = takeSt 1 bs er := ⟨_, rfl⟩
  rw [show takeSt ((1 : Nat) : Int) bs er = st from hst.symm] at hlt hy hn
  rw [← hst] at C hln
  obtain ⟨x, r, e1⟩ := st
  simp only at C hlt hy hn hln
  have hw : IntKind.u8.wrap (x : Int) = (x : Int) := IntWalk.u8_in _ (by omega)
  clear hI hm hst
  go_enter Tryz.func37, Tryz.ntmps37
  go_wp2_with fail
  refine C.out.mono ?_
  rintro e w1 ⟨rfl, i1, k1⟩
  have m1 := HM.out.only k1 (by omega)
  obtain ⟨c0, f0⟩ := has_at m1 ho
  have R : Hid (TkF w lo g mb off (.num 1) bs er cs (.returned (.tuple #[])) (w1.setCell ⟨mb, off, none⟩ (.int .u8 (x : Int)))) := TkF.one (f := .num 1 x) rfl rfl m1 ho (fun cs' h => h) i1 hg k1 hln hy hn
  generalize cs[off] = old at c0
  clear C i1 k1 m1 HM hy hn
  go_wp2
  go_end0
  exact R.out

set_option maxHeartbeats 1000000 in
theorem take_u16 (lo g mb off : Nat) (bs : List UInt8) (er : Int) (cs : Array Value) (w : World) (hI : InAt w lo g bs er) (hm : Has w mb 34 cs) (hg : g < mb) (ho : off < cs.size) :
    Calls Tryz.prog 37 #[.pointer (some ⟨g, 0, none⟩), .iface 97 (.pointer (some ⟨mb, off, none⟩))] w (TkF w lo g mb off (.num 2) bs er cs) := by
  have C := Lib.hid (take_any lo g 2 bs er w hI)
  have hlt := takeSt_lt 2 bs er
  have hln := takeSt_len 2 bs er
  have hy := @num_yes 2 bs er
  have hn := @num_no 2 bs er
  have HM := Lib.hid hm
  have a0 := Tryz.as_u16_u8 ⟨mb, off, none⟩
  have a1 := Tryz.as_u16_u16 ⟨mb, off, none⟩
  obtain ⟨st, hst⟩ : ∃ s, s = takeSt 2 bs er := ⟨_, rfl⟩
  rw [show takeSt ((2 : Nat) : Int) bs er = st from hst.symm] at hlt hy hn
  rw [← hst] at C hln
  obtain ⟨x, r, e1⟩ := st
  simp only at C hlt hy hn hln
  have hw : IntKind.u16.wrap (x : Int) = (x : Int) := IntWalk.u16_in _ (by omega)
  clear hI hm hst
  go_enter Tryz.func37, Tryz.ntmps37
  go_wp2_with fail
  refine C.out.mono ?_
  rintro e w1 ⟨rfl, i1, k1⟩
  have m1 := HM.out.only k1 (by omega)
  obtain ⟨c0, f0⟩ := has_at m1 ho
  have R : Hid (TkF w lo g mb off (.num 2) bs er cs (.returned (.tuple #[])) (w1.setCell ⟨mb, off, none⟩ (.int .u16 (x : Int)))) := TkF.one (f := .num 2 x) rfl rfl m1 ho (fun cs' h => h) i1 hg k1 hln hy hn
  generalize cs[off] = old at c0
  clear C i1 k1 m1 HM hy hn
  go_wp2
  go_end0
  exact R.out

set_option maxHeartbeats 1000000 in
theorem take_u32 (lo g mb off : Nat) (bs : List UInt8) (er : Int) (cs : Array Value) (w : World) (hI : InAt w lo g bs er) (hm : Has w mb 34 cs) (hg : g < mb) (ho : off < cs.size) :
    Calls Tryz.prog 37 #[.pointer (some ⟨g, 0, none⟩), .iface 94 (.pointer (some ⟨mb, off, none⟩))] w (TkF w lo g mb off (.num 4) bs er cs) := by
  have C := Lib.hid (take_any lo g 4 bs er w hI)
  have hlt := takeSt_lt 4 bs er
  have hln := takeSt_len 4 bs er
  have hy := @num_yes 4 bs er
  have hn := @num_no 4 bs er
  have HM := Lib.hid hm
  have a0 := Tryz.as_u32_u8 ⟨mb, off, none⟩
  have a1 := Tryz.as_u32_u16 ⟨mb, off, none⟩
  have a2 := Tryz.as_u32_u32 ⟨mb, off, none⟩
  obtain ⟨st, hst⟩ : ∃ s, s = takeSt 4 bs er := ⟨_, rfl⟩
  rw [show takeSt ((4 : Nat) : Int) bs er = st from hst.symm] at hlt hy hn
  rw [← hst] at C hln
  obtain ⟨x, r, e1⟩ := st
  simp only at C hlt hy hn hln
  have hw : IntKind.u32.wrap (x : Int) = (x : Int) := IntWalk.u32_in _ (by omega)
  clear hI hm hst
  go_enter Tryz.func37, Tryz.ntmps37
  go_wp2_with fail
  refine C.out.mono ?_
  rintro e w1 ⟨rfl, i1, k1⟩
  have m1 := HM.out.only k1 (by omega)
  obtain ⟨c0, f0⟩ := has_at m1 ho
  have R : Hid (TkF w lo g mb off (.num 4) bs er cs (.returned (.tuple #[])) (w1.setCell ⟨mb, off, none⟩ (.int .u32 (x : Int)))) := TkF.one (f := .num 4 x) rfl rfl m1 ho (fun cs' h => h) i1 hg k1 hln hy hn
  generalize cs[off] = old at c0
  clear C i1 k1 m1 HM hy hn
  go_wp2
  go_end0
  exact R.out

set_option maxHeartbeats 1000000 in
theorem take_u64 (lo g mb off : Nat) (bs : List UInt8) (er : Int) (cs : Array Value) (w : World) (hI : InAt w lo g bs er) (hm : Has w mb 34 cs) (hg : g < mb) (ho : off < cs.size) :
    Calls Tryz.prog 37 #[.pointer (some ⟨g, 0, none⟩), .iface 101 (.pointer (some ⟨mb, off, none⟩))] w (TkF w lo g mb off (.num 8) bs er cs) := by
  have C := Lib.hid (take_any lo g 8 bs er w hI)
  have hlt := takeSt_lt 8 bs er
  have hln := takeSt_len 8 bs er
  have hy := @num_yes 8 bs er
  have hn := @num_no 8 bs er
  have HM := Lib.hid hm
  have a0 := Tryz.as_u64_u8 ⟨mb, off, none⟩
  have a1 := Tryz.as_u64_u16 ⟨mb, off, none⟩
  have a2 := Tryz.as_u64_u32 ⟨mb, off, none⟩
  have a3 := Tryz.as_u64_u64 ⟨mb, off, none⟩
  obtain ⟨st, hst⟩ : ∃ s, s = takeSt 8 bs er := ⟨_, rfl⟩
  rw [show takeSt ((8 : Nat) : Int) bs er = st from hst.symm] at hlt hy hn
  rw [← hst] at C hln
  obtain ⟨x, r, e1⟩ := st
  simp only at C hlt hy hn hln
  clear hI hm hst
  go_enter Tryz.func37, Tryz.ntmps37
  go_wp2_with fail
  refine C.out.mono ?_
  rintro e w1 ⟨rfl, i1, k1⟩
  have m1 := HM.out.only k1 (by omega)
  obtain ⟨c0, f0⟩ := has_at m1 ho
  have R : Hid (TkF w lo g mb off (.num 8) bs er cs (.returned (.tuple #[])) (w1.setCell ⟨mb, off, none⟩ (.int .u64 (x : Int)))) := TkF.one (f := .num 8 x) rfl rfl m1 ho (fun cs' h => h) i1 hg k1 hln hy hn
  generalize cs[off] = old at c0
  clear C i1 k1 m1 HM hy hn
  go_wp2
  go_end0
  exact R.out

set_option maxHeartbeats 1000000 in
theorem take_text (lo g mb off : Nat) (bs : List UInt8) (er : Int) (cs : Array Value) (w : World) (hI : InAt w lo g bs er) (hm : Has w mb 34 cs) (hT : Tabs w) (hgt : 1 < g ∧ 2 < g) (hb : bs.length ≤ 100000) (hg : g < mb) (ho : off < cs.size) :
    Calls Tryz.prog 37 #[.pointer (some ⟨g, 0, none⟩), .iface 95 (.pointer (some ⟨mb, off, none⟩))] w (TkF w lo g mb off .text bs er cs) := by
  have C := Lib.hid (tktext_any lo g bs er w hI hT (by omega) (by omega) hb)
  have HM := Lib.hid hm
  have a0 := Tryz.as_text_u8 ⟨mb, off, none⟩
  have a1 := Tryz.as_text_u16 ⟨mb, off, none⟩
  have a2 := Tryz.as_text_u32 ⟨mb, off, none⟩
  have a3 := Tryz.as_text_u64 ⟨mb, off, none⟩
  have a4 := Tryz.as_text_text ⟨mb, off, none⟩
  clear hI hm
  go_enter Tryz.func37, Tryz.ntmps37
  go_wp2_with fail
  refine C.out.mono ?_
  intro e w1 st
  rcases st with ⟨rfl, k1, hn⟩ | ⟨f, v, r, e1, rfl, hf, hv, i1, k1, hln, hy, hn⟩
  · have R : Hid (TkF w lo g mb off .text bs er cs (.panicked [{ v := .iface 35 (.int .i64 2), recovered := false }]) w1) := TkF.pan k1 hn
    clear C k1 hn HM
    go_wp2
    exact ⟨rfl, R.out⟩
  · have m1 := HM.out.only k1 (by omega)
    obtain ⟨c0, f0⟩ := has_at m1 ho
    have hmlt := HM.out.lt
    cases f with
    | text L =>
      have R : Hid (TkF w lo g mb off .text bs er cs (.returned (.tuple #[])) (w1.setCell ⟨mb, off, none⟩ v)) := TkF.one (f := .text L) rfl rfl m1 ho (fun cs' h => by rw [show v = _ from hv] at h; exact h) i1 hg k1 hln hy hn
      have hv2 : v = .string (strOf L) := hv
      subst hv2
      generalize cs[off] = old at c0
      clear C i1 k1 m1 HM hy hn hv
      go_wp2
      go_end0
      exact R.out
    | _ => cases hf

set_option maxHeartbeats 1000000 in
theorem take_texts (lo g mb off : Nat) (bs : List UInt8) (er : Int) (cs : Array Value) (w : World) (hI : InAt w lo g bs er) (hm : Has w mb 34 cs) (hT : Tabs w) (hgt : 1 < g ∧ 2 < g) (hb : bs.length ≤ 100000) (hg : g < mb) (ho : off < cs.size) :
    Calls Tryz.prog 37 #[.pointer (some ⟨g, 0, none⟩), .iface 98 (.pointer (some ⟨mb, off, none⟩))] w (TkF w lo g mb off .texts bs er cs) := by
  have C := Lib.hid (tklists_any lo g bs er w hI hT hgt hb)
  have HM := Lib.hid hm
  have a0 := Tryz.as_texts_u8 ⟨mb, off, none⟩
  have a1 := Tryz.as_texts_u16 ⟨mb, off, none⟩
  have a2 := Tryz.as_texts_u32 ⟨mb, off, none⟩
  have a3 := Tryz.as_texts_u64 ⟨mb, off, none⟩
  have a4 := Tryz.as_texts_text ⟨mb, off, none⟩
  have a5 := Tryz.as_texts_texts ⟨mb, off, none⟩
  clear hI hm
  go_enter Tryz.func37, Tryz.ntmps37
  go_wp2_with fail
  refine C.out.mono ?_
  intro e w1 st
  rcases st with ⟨rfl, k1, hn⟩ | ⟨f, v, r, e1, rfl, hf, hv, i1, k1, hln, hy, hn⟩
  · have R : Hid (TkF w lo g mb off .texts bs er cs (.panicked [{ v := .iface 35 (.int .i64 2), recovered := false }]) w1) := TkF.pan k1 hn
    clear C k1 hn HM
    go_wp2
    exact ⟨rfl, R.out⟩
  · have m1 := HM.out.only k1 (by omega)
    obtain ⟨c0, f0⟩ := has_at m1 ho
    have hmlt := HM.out.lt
    cases f with
    | texts L =>
      have R : Hid (TkF w lo g mb off .texts bs er cs (.returned (.tuple #[])) (w1.setCell ⟨mb, off, none⟩ v)) := TkF.one (f := .texts L) rfl rfl m1 ho (fun cs' h => ⟨v, h, hv.keep (((Only.refl (fun i => i = mb) w1).setCell (p := ⟨mb, off, none⟩) (fun _ => rfl) v).keeps (Nat.le_refl _) (fun i hi _ h => by omega))⟩) i1 hg k1 hln hy hn
      obtain ⟨A, c, rfl, _⟩ := hv
      generalize cs[off] = old at c0
      clear C i1 k1 m1 HM hy hn
      go_wp2
      go_end0
      exact R.out
    | _ => cases hf

theorem qset_get {cs : Array Value} {off : Nat} (h : off + 3 ≤ cs.size) (a b c : Value) : (((cs.setIfInBounds off a).setIfInBounds (off + 1) b).setIfInBounds (off + 2) c)[off]? = some a ∧
    (((cs.setIfInBounds off a).setIfInBounds (off + 1) b).setIfInBounds (off + 2) c)[off + 1]? = some b ∧ (((cs.setIfInBounds off a).setIfInBounds (off + 1) b).setIfInBounds (off + 2) c)[off + 2]? = some c := by
  refine ⟨?_, ?_, ?_⟩ <;> simp [Array.getElem?_setIfInBounds] <;> omega
set_option maxHeartbeats 1000000 in
theorem take_qid (lo g mb off : Nat) (bs : List UInt8) (er : Int) (cs : Array Value) (w : World) (hI : InAt w lo g bs er) (hm : Has w mb 34 cs) (hg : g < mb) (ho : off + 3 ≤ cs.size) :
    Calls Tryz.prog 37 #[.pointer (some ⟨g, 0, none⟩), .iface 96 (.pointer (some ⟨mb, off, none⟩))] w (TkF w lo g mb off .qid bs er cs) := by
  have C := qidtake_any lo g bs er w hI
  unfold QTakeStep at C
  have hln := qTake_len bs er
  have hy := @qid_yes bs er
  have hn := @qid_no bs er
  have HM := Lib.hid hm
  have a0 := Tryz.as_qid_u8 ⟨mb, off, none⟩
  have a1 := Tryz.as_qid_u16 ⟨mb, off, none⟩
  have a2 := Tryz.as_qid_u32 ⟨mb, off, none⟩
  have a3 := Tryz.as_qid_u64 ⟨mb, off, none⟩
  have a4 := Tryz.as_qid_text ⟨mb, off, none⟩
  have a5 := Tryz.as_qid_texts ⟨mb, off, none⟩
  have a6 := Tryz.as_qid_qid ⟨mb, off, none⟩
  generalize qTake bs er = st at C hln hy hn
  obtain ⟨q, r, e1⟩ := st
  simp only at C hln hy hn
  unfold Q3.val at C
  have C := Lib.hid C
  clear hI hm
  go_enter Tryz.func37, Tryz.ntmps37
  go_wp2_with fail
  refine C.out.mono ?_
  rintro e w1 ⟨rfl, i1, k1⟩
  have m1 := HM.out.only k1 (by omega)
  obtain ⟨c0, f0⟩ := has_at m1 (off := off) (by omega)
  obtain ⟨c1, f1⟩ := has_at m1 (off := off + 1) (by omega)
  obtain ⟨c2, f2⟩ := has_at m1 (off := off + 2) (by omega)
  have R : Hid (TkF w lo g mb off .qid bs er cs (.returned (.tuple #[])) (((w1.setCell ⟨mb, off, none⟩ (.int .u8 (q.t : Int))).setCell ⟨mb, off + 1, none⟩ (.int .u32 (q.v : Int))).setCell ⟨mb, off + 2, none⟩ (.int .u64 (q.p : Int)))) := by
    refine .inr ⟨.qid q, _, r, e1, rfl, rfl, ((m1.set off _).set (off + 1) _).set (off + 2) _, by simp, qset_get ho _ _ _, ?_, ?_, ?_, hln, hy, hn⟩
    · intro i hi
      rw [show K.size .qid = 3 from rfl] at hi
      rw [set_out (by omega), set_out (by omega), set_out (by omega)]
    · exact i1.only ((((Only.refl (fun i => i = mb) w1).setCell (p := ⟨mb, off, none⟩) (fun _ => rfl) _).setCell (p := ⟨mb, off + 1, none⟩) (fun _ => rfl) _).setCell (p := ⟨mb, off + 2, none⟩) (fun _ => rfl) _) (fun i _ hi h => by omega)
    · exact (((k1.mono (T := fun i => i = g ∨ i = mb) (fun _ _ h => .inl h)).setCell (p := ⟨mb, off, none⟩) (fun _ => .inr rfl) _).setCell (p := ⟨mb, off + 1, none⟩) (fun _ => .inr rfl) _).setCell (p := ⟨mb, off + 2, none⟩) (fun _ => .inr rfl) _
  generalize cs[off] = o0 at c0
  generalize cs[off + 1] = o1 at c1
  generalize cs[off + 2] = o2 at c2
  clear C i1 k1 m1 HM hy hn
  go_wp2
  go_end0
  exact R.out

set_option maxHeartbeats 1000000 in
theorem take_qids (lo g mb off : Nat) (bs : List UInt8) (er : Int) (cs : Array Value) (w : World) (hI : InAt w lo g bs er) (hm : Has w mb 34 cs) (hg : g < mb) (ho : off < cs.size) :
    Calls Tryz.prog 37 #[.pointer (some ⟨g, 0, none⟩), .iface 99 (.pointer (some ⟨mb, off, none⟩))] w (TkF w lo g mb off .qids bs er cs) := by
  have C := Lib.hid (tklistq_any lo g bs er w hI)
  have HM := Lib.hid hm
  have a0 := Tryz.as_qids_u8 ⟨mb, off, none⟩
  have a1 := Tryz.as_qids_u16 ⟨mb, off, none⟩
  have a2 := Tryz.as_qids_u32 ⟨mb, off, none⟩
  have a3 := Tryz.as_qids_u64 ⟨mb, off, none⟩
  have a4 := Tryz.as_qids_text ⟨mb, off, none⟩
  have a5 := Tryz.as_qids_texts ⟨mb, off, none⟩
  have a6 := Tryz.as_qids_qid ⟨mb, off, none⟩
  have a7 := Tryz.as_qids_qids ⟨mb, off, none⟩
  clear hI hm
  go_enter Tryz.func37, Tryz.ntmps37
  go_wp2_with fail
  refine C.out.mono ?_
  intro e w1 st
  rcases st with ⟨rfl, k1, hn⟩ | ⟨f, v, r, e1, rfl, hf, hv, i1, k1, hln, hy, hn⟩
  · have R : Hid (TkF w lo g mb off .qids bs er cs (.panicked [{ v := .iface 35 (.int .i64 2), recovered := false }]) w1) := TkF.pan k1 hn
    clear C k1 hn HM
    go_wp2
    exact ⟨rfl, R.out⟩
  · have m1 := HM.out.only k1 (by omega)
    obtain ⟨c0, f0⟩ := has_at m1 ho
    have hmlt := HM.out.lt
    cases f with
    | qids L =>
      have R : Hid (TkF w lo g mb off .qids bs er cs (.returned (.tuple #[])) (w1.setCell ⟨mb, off, none⟩ v)) := TkF.one (f := .qids L) rfl rfl m1 ho (fun cs' h => ⟨v, h, hv.keep (((Only.refl (fun i => i = mb) w1).setCell (p := ⟨mb, off, none⟩) (fun _ => rfl) v).keeps (Nat.le_refl _) (fun i hi _ h => by omega))⟩) i1 hg k1 hln hy hn
      obtain ⟨A, c, rfl, _⟩ := hv
      generalize cs[off] = old at c0
      clear C i1 k1 m1 HM hy hn
      go_wp2
      go_end0
      exact R.out
    | _ => cases hf

set_option maxHeartbeats 1000000 in
theorem take_data (lo g mb off : Nat) (bs : List UInt8) (er : Int) (cs : Array Value) (w : World) (hI : InAt w lo g bs er) (hm : Has w mb 34 cs) (hb : bs.length ≤ 100000) (hg : g < mb) (ho : off < cs.size) :
    Calls Tryz.prog 37 #[.pointer (some ⟨g, 0, none⟩), .iface 102 (.pointer (some ⟨mb, off, none⟩))] w (TkF w lo g mb off .data bs er cs) := by
  have C := Lib.hid (tkdata_any lo g bs er w hI hb)
  have HM := Lib.hid hm
  have a0 := Tryz.as_data_u8 ⟨mb, off, none⟩
  have a1 := Tryz.as_data_u16 ⟨mb, off, none⟩
  have a2 := Tryz.as_data_u32 ⟨mb, off, none⟩
  have a3 := Tryz.as_data_u64 ⟨mb, off, none⟩
  have a4 := Tryz.as_data_text ⟨mb, off, none⟩
  have a5 := Tryz.as_data_texts ⟨mb, off, none⟩
  have a6 := Tryz.as_data_qid ⟨mb, off, none⟩
  have a7 := Tryz.as_data_qids ⟨mb, off, none⟩
  have a8 := Tryz.as_data_data ⟨mb, off, none⟩
  clear hI hm
  go_enter Tryz.func37, Tryz.ntmps37
  go_wp2_with fail
  refine C.out.mono ?_
  intro e w1 st
  rcases st with ⟨rfl, k1, hn⟩ | ⟨f, v, r, e1, rfl, hf, hv, i1, k1, hln, hy, hn⟩
  · have R : Hid (TkF w lo g mb off .data bs er cs (.panicked [{ v := .iface 35 (.int .i64 2), recovered := false }]) w1) := TkF.pan k1 hn
    clear C k1 hn HM
    go_wp2
    exact ⟨rfl, R.out⟩
  · have m1 := HM.out.only k1 (by omega)
    obtain ⟨c0, f0⟩ := has_at m1 ho
    have hmlt := HM.out.lt
    cases f with
    | data L =>
      have R : Hid (TkF w lo g mb off .data bs er cs (.returned (.tuple #[])) (w1.setCell ⟨mb, off, none⟩ v)) := TkF.one (f := .data L) rfl rfl m1 ho (fun cs' h => ⟨v, h, hv.keep (((Only.refl (fun i => i = mb) w1).setCell (p := ⟨mb, off, none⟩) (fun _ => rfl) v).keeps (Nat.le_refl _) (fun i hi _ h => by omega))⟩) i1 hg k1 hln hy hn
      obtain ⟨A, c, rfl, _⟩ := hv
      generalize cs[off] = old at c0
      clear C i1 k1 m1 HM hy hn
      go_wp2
      go_end0
      exact R.out
    | _ => cases hf

/-- A record stored within a message. -/
def set13o (w : World) (mb off : Nat) (s : S11) : World := (World.setCell (World.setCell (World.setCell (World.setCell (World.setCell (World.setCell (World.setCell (World.setCell (World.setCell (World.setCell (World.setCell (World.setCell (World.setCell w ⟨mb, off, none⟩ (.int .u16 (s.k : Int))) ⟨mb, off + 1, none⟩ (.int .u32 (s.d : Int))) ⟨mb, off + 2, none⟩ (.int .u8 (s.q.t : Int))) ⟨mb, off + 3, none⟩ (.int .u32 (s.q.v : Int))) ⟨mb, off + 4, none⟩ (.int .u64 (s.q.p : Int))) ⟨mb, off + 5, none⟩ (.int .u32 (s.m : Int))) ⟨mb, off + 6, none⟩ (.int .u32 (s.a : Int))) ⟨mb, off + 7, none⟩ (.int .u32 (s.c : Int))) ⟨mb, off + 8, none⟩ (.int .u64 (s.l : Int))) ⟨mb, off + 9, none⟩ (.string (strOf s.n))) ⟨mb, off + 10, none⟩ (.string (strOf s.u))) ⟨mb, off + 11, none⟩ (.string (strOf s.g))) ⟨mb, off + 12, none⟩ (.string (strOf s.x)))
def put13 (cs : Array Value) (off : Nat) (s : S11) : Array Value := (Array.setIfInBounds (Array.setIfInBounds (Array.setIfInBounds (Array.setIfInBounds (Array.setIfInBounds (Array.setIfInBounds (Array.setIfInBounds (Array.setIfInBounds (Array.setIfInBounds (Array.setIfInBounds (Array.setIfInBounds (Array.setIfInBounds (Array.setIfInBounds cs off (.int .u16 (s.k : Int))) (off + 1) (.int .u32 (s.d : Int))) (off + 2) (.int .u8 (s.q.t : Int))) (off + 3) (.int .u32 (s.q.v : Int))) (off + 4) (.int .u64 (s.q.p : Int))) (off + 5) (.int .u32 (s.m : Int))) (off + 6) (.int .u32 (s.a : Int))) (off + 7) (.int .u32 (s.c : Int))) (off + 8) (.int .u64 (s.l : Int))) (off + 9) (.string (strOf s.n))) (off + 10) (.string (strOf s.u))) (off + 11) (.string (strOf s.g))) (off + 12) (.string (strOf s.x)))
theorem has_set13o {w : World} {mb off : Nat} {cs : Array Value} (h : Has w mb 34 cs) (s : S11) : Has (set13o w mb off s) mb 34 (put13 cs off s) := (((((((((((((h.set off _).set (off + 1) _).set (off + 2) _).set (off + 3) _).set (off + 4) _).set (off + 5) _).set (off + 6) _).set (off + 7) _).set (off + 8) _).set (off + 9) _).set (off + 10) _).set (off + 11) _).set (off + 12) _)
theorem Only.set13o {S : Nat → Prop} {a w : World} (h : Only S a w) {mb off : Nat} (hb : mb < a.heap.size → S mb) (s : S11) : Only S a (set13o w mb off s) := (((((((((((((h.setCell (p := ⟨mb, off, none⟩) hb _).setCell (p := ⟨mb, off + 1, none⟩) hb _).setCell (p := ⟨mb, off + 2, none⟩) hb _).setCell (p := ⟨mb, off + 3, none⟩) hb _).setCell (p := ⟨mb, off + 4, none⟩) hb _).setCell (p := ⟨mb, off + 5, none⟩) hb _).setCell (p := ⟨mb, off + 6, none⟩) hb _).setCell (p := ⟨mb, off + 7, none⟩) hb _).setCell (p := ⟨mb, off + 8, none⟩) hb _).setCell (p := ⟨mb, off + 9, none⟩) hb _).setCell (p := ⟨mb, off + 10, none⟩) hb _).setCell (p := ⟨mb, off + 11, none⟩) hb _).setCell (p := ⟨mb, off + 12, none⟩) hb _)
theorem put13_size (cs : Array Value) (off : Nat) (s : S11) : (put13 cs off s).size = cs.size := by simp [put13]
theorem put13_out (cs : Array Value) (off : Nat) (s : S11) (i : Nat) (h : i < off ∨ off + 13 ≤ i) : (put13 cs off s)[i]? = cs[i]? := by
  unfold put13
  rw [set_out (by omega), set_out (by omega), set_out (by omega), set_out (by omega), set_out (by omega), set_out (by omega), set_out (by omega), set_out (by omega), set_out (by omega), set_out (by omega), set_out (by omega), set_out (by omega), set_out (by omega)]
theorem put13_in (cs : Array Value) (off : Nat) (s : S11) (h : off + 13 ≤ cs.size) (j : Nat) (hj : j < 13) : (put13 cs off s)[off + j]? = s.cells[j]? := by
  unfold put13
  match j, hj with

  | 0, _ => simp only [Nat.add_zero]; rw [set_out (by omega), set_out (by omega), set_out (by omega), set_out (by omega), set_out (by omega), set_out (by omega), set_out (by omega), set_out (by omega), set_out (by omega), set_out (by omega), set_out (by omega), set_out (by omega), set_in (by omega)]; rfl
  | 1, _ => rw [set_out (by omega), set_out (by omega), set_out (by omega), set_out (by omega), set_out (by omega), set_out (by omega), set_out (by omega), set_out (by omega), set_out (by omega), set_out (by omega), set_out (by omega), set_in (by simp; omega)]; rfl
  | 2, _ => rw [set_out (by omega), set_out (by omega), set_out (by omega), set_out (by omega), set_out (by omega), set_out (by omega), set_out (by omega), set_out (by omega), set_out (by omega), set_out (by omega), set_in (by simp; omega)]; rfl
  | 3, _ => rw [set_out (by omega), set_out (by omega), set_out (by omega), set_out (by omega), set_out (by omega), set_out (by omega), set_out (by omega), set_out (by omega), set_out (by omega), set_in (by simp; omega)]; rfl
  | 4, _ => rw [set_out (by omega), set_out (by omega), set_out (by omega), set_out (by omega), set_out (by omega), set_out (by omega), set_out (by omega), set_out (by omega), set_in (by simp; omega)]; rfl
  | 5, _ => rw [set_out (by omega), set_out (by omega), set_out (by omega), set_out (by omega), set_out (by omega), set_out (by omega), set_out (by omega), set_in (by simp; omega)]; rfl
  | 6, _ => rw [set_out (by omega), set_out (by omega), set_out (by omega), set_out (by omega), set_out (by omega), set_out (by omega), set_in (by simp; omega)]; rfl
  | 7, _ => rw [set_out (by omega), set_out (by omega), set_out (by omega), set_out (by omega), set_out (by omega), set_in (by simp; omega)]; rfl
  | 8, _ => rw [set_out (by omega), set_out (by omega), set_out (by omega), set_out (by omega), set_in (by simp; omega)]; rfl
  | 9, _ => rw [set_out (by omega), set_out (by omega), set_out (by omega), set_in (by simp; omega)]; rfl
  | 10, _ => rw [set_out (by omega), set_out (by omega), set_in (by simp; omega)]; rfl
  | 11, _ => rw [set_out (by omega), set_in (by simp; omega)]; rfl
  | 12, _ => rw [set_in (by simp; omega)]; rfl
set_option maxHeartbeats 1000000 in
theorem take_stat (lo g mb off : Nat) (bs : List UInt8) (er : Int) (cs : Array Value) (w : World) (hI : InAt w lo g bs er) (hm : Has w mb 34 cs) (hT : Tabs w) (hgt : 1 < g ∧ 2 < g) (hb : bs.length ≤ 100000) (hg : g < mb) (ho : off + 13 ≤ cs.size) :
    Calls Tryz.prog 37 #[.pointer (some ⟨g, 0, none⟩), .iface 103 (.pointer (some ⟨mb, off, none⟩))] w (TkF w lo g mb off .stat bs er cs) := by
  have C := Lib.hid (tkrecord_any lo g bs er w hI hT hgt hb)
  have HM := Lib.hid hm
  have a0 := Tryz.as_stat_u8 ⟨mb, off, none⟩
  have a1 := Tryz.as_stat_u16 ⟨mb, off, none⟩
  have a2 := Tryz.as_stat_u32 ⟨mb, off, none⟩
  have a3 := Tryz.as_stat_u64 ⟨mb, off, none⟩
  have a4 := Tryz.as_stat_text ⟨mb, off, none⟩
  have a5 := Tryz.as_stat_texts ⟨mb, off, none⟩
  have a6 := Tryz.as_stat_qid ⟨mb, off, none⟩
  have a7 := Tryz.as_stat_qids ⟨mb, off, none⟩
  have a8 := Tryz.as_stat_data ⟨mb, off, none⟩
  have a9 := Tryz.as_stat_stat ⟨mb, off, none⟩
  clear hI hm
  go_enter Tryz.func37, Tryz.ntmps37
  go_wp2_with fail
  refine C.out.mono ?_
  intro e w1 st
  rcases st with ⟨rfl, k1, hn⟩ | ⟨f, v, r, e1, rfl, hf, hv, i1, k1, hln, hy, hn⟩
  · have R : Hid (TkF w lo g mb off .stat bs er cs (.panicked [{ v := .iface 35 (.int .i64 2), recovered := false }]) w1) := TkF.pan k1 hn
    clear C k1 hn HM
    go_wp2
    exact ⟨rfl, R.out⟩
  · have m1 := HM.out.only k1 (by omega)
    obtain ⟨c0, f0⟩ := has_at m1 (off := off) (by omega)
    obtain ⟨c1, f1⟩ := has_at m1 (off := off + 1) (by omega)
    obtain ⟨c2, f2⟩ := has_at m1 (off := off + 2) (by omega)
    obtain ⟨c3, f3⟩ := has_at m1 (off := off + 3) (by omega)
    obtain ⟨c4, f4⟩ := has_at m1 (off := off + 4) (by omega)
    obtain ⟨c5, f5⟩ := has_at m1 (off := off + 5) (by omega)
    obtain ⟨c6, f6⟩ := has_at m1 (off := off + 6) (by omega)
    obtain ⟨c7, f7⟩ := has_at m1 (off := off + 7) (by omega)
    obtain ⟨c8, f8⟩ := has_at m1 (off := off + 8) (by omega)
    obtain ⟨c9, f9⟩ := has_at m1 (off := off + 9) (by omega)
    obtain ⟨c10, f10⟩ := has_at m1 (off := off + 10) (by omega)
    obtain ⟨c11, f11⟩ := has_at m1 (off := off + 11) (by omega)
    obtain ⟨c12, f12⟩ := has_at m1 (off := off + 12) (by omega)
    cases f with
    | stat s =>
      have R : Hid (TkF w lo g mb off .stat bs er cs (.returned (.tuple #[])) (set13o w1 mb off s)) := by
        refine .inr ⟨.stat s, _, r, e1, rfl, rfl, has_set13o m1 s, put13_size _ _ _, put13_in cs off s ho, put13_out cs off s, ?_, ?_, hln, hy, hn⟩
        · exact i1.only ((Only.refl (fun i => i = mb) w1).set13o (fun _ => rfl) s) (fun i _ hi h => by omega)
        · exact (k1.mono (T := fun i => i = g ∨ i = mb) (fun _ _ h => .inl h)).set13o (fun _ => .inr rfl) s
      have hv2 : v = s.val := hv
      subst hv2
      generalize cs[off] = o0 at c0
      generalize cs[off + 1] = o1 at c1
      generalize cs[off + 2] = o2 at c2
      generalize cs[off + 3] = o3 at c3
      generalize cs[off + 4] = o4 at c4
      generalize cs[off + 5] = o5 at c5
      generalize cs[off + 6] = o6 at c6
      generalize cs[off + 7] = o7 at c7
      generalize cs[off + 8] = o8 at c8
      generalize cs[off + 9] = o9 at c9
      generalize cs[off + 10] = o10 at c10
      generalize cs[off + 11] = o11 at c11
      generalize cs[off + 12] = o12 at c12
      clear C i1 k1 m1 HM hy hn hv
      unfold set13o at R
      unfold S11.val S11.cells
      go_wp2
      go_end0
      exact R.out
    | _ => cases hf

theorem takef_any (lo g mb off : Nat) (k : K) (bs : List UInt8) (er : Int) (cs : Array Value) (w : World) (hI : InAt w lo g bs er) (hm : Has w mb 34 cs) (hk : k.std) (hT : Tabs w) (hgt : 1 < g ∧ 2 < g) (hb : bs.length ≤ 100000)
    (hg : g < mb) (ho : off + k.size ≤ cs.size) :
    Calls Tryz.prog 37 #[.pointer (some ⟨g, 0, none⟩), .iface k.ptr (.pointer (some ⟨mb, off, none⟩))] w (TkF w lo g mb off k bs er cs) := by
  cases k with
  | num n =>
    rcases std_num hk with rfl | rfl | rfl | rfl
    · exact take_u8 lo g mb off bs er cs w hI hm hg ho
    · exact take_u16 lo g mb off bs er cs w hI hm hg ho
    · exact take_u32 lo g mb off bs er cs w hI hm hg ho
    · exact take_u64 lo g mb off bs er cs w hI hm hg ho
  | text => exact take_text lo g mb off bs er cs w hI hm hT hgt hb hg ho
  | texts => exact take_texts lo g mb off bs er cs w hI hm hT hgt hb hg ho
  | qid => exact take_qid lo g mb off bs er cs w hI hm hg ho
  | qids => exact take_qids lo g mb off bs er cs w hI hm hg ho
  | data => exact take_data lo g mb off bs er cs w hI hm hb hg ho
  | stat => exact take_stat lo g mb off bs er cs w hI hm hT hgt hb hg ho
end Go.Proofs.YtepiifbleoimkaaGreatDoor
