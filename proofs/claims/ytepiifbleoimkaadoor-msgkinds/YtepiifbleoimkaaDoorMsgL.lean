/-
  Package msg: whole, Decode.
-/
import Derived.Test.YtepiifbleoimkaaDoorMsgK
namespace Go.Proofs.YtepiifbleoimkaaDoor
open Go.RowKit
set_option maxRecDepth 100000

theorem Tryd.msgSize : (Tryd.prog.info? 33).map (·.size) = some 36 := by kernel_rfl

/-- A whole struct is loaded; is stored. -/
theorem load_struct {P : Program} {ops : Array Oper} {rest : List Oper} {o : Oper} {a : Act} {w : World} {Q : Exit → Act → World → Prop} {ty : TypeId} {n : Nat} {d : TypeDesc} (hu : P.underlying ty = some d) (hd : (match d with | .struct _ | .array _ _ => true | _ => false) = true)
    (hi : (P.info? ty).map (·.size) = some n) (g : Nat) (cs : Array Value) (x : Operand) (hgd : o.guard = none) (ho : o.op = .load ty x) (hx : a.eval x = .pointer (some ⟨g, 0, none⟩)) {t : TypeId} (hg : Has w g t cs) (hs : cs.size = n)
    (h : wpList P ops Q rest (a.put o.dst (.agg cs)) w) : wpList P ops Q (o :: rest) a w :=
  wpList_load_row hgd ty x ho g hx t cs (0, 0) d hg hu hd (by rw [hs]; exact hi) h
theorem load_structG {P : Program} {ops : Array Oper} {rest : List Oper} {o : Oper} {a : Act} {w : World} {Q : Exit → Act → World → Prop} {ty : TypeId} {n : Nat} {d : TypeDesc} (hu : P.underlying ty = some d) (hd : (match d with | .struct _ | .array _ _ => true | _ => false) = true)
    (hi : (P.info? ty).map (·.size) = some n) (g : Nat) (cs : Array Value) (x : Operand) (hw : Region.wanted o (yielded ops a.tmps) = true) (ho : o.op = .load ty x) (hx : a.eval x = .pointer (some ⟨g, 0, none⟩)) {t : TypeId} (hg : Has w g t cs) (hs : cs.size = n)
    (h : wpList P ops Q rest (a.put o.dst (.agg cs)) w) : wpList P ops Q (o :: rest) a w :=
  BigFrame.wpList_want hw fun _ hK => wp_load_row ty x ho g hx t cs (0, 0) d hg hu hd (by rw [hs]; exact hi) (hK _ _ h)
theorem store_struct {P : Program} {ops : Array Oper} {rest : List Oper} {o : Oper} {a : Act} {w : World} {Q : Exit → Act → World → Prop} {ty : TypeId} {n : Nat} (hi : (P.info? ty).map (·.size) = some n) (g : Nat) (cs : Array Value) (x y : Operand) (hgd : o.guard = none) (ho : o.op = .store ty x y)
    (hx : a.eval x = .pointer (some ⟨g, 0, none⟩)) (hy : a.eval y = .agg cs) {t : TypeId} {old : Array Value} (hg : Has w g t old) (hold : old.size = n) (hs : cs.size = n) (h1 : cs.all (fun x => x.oneCell') = true)
    (h : wpList P ops Q rest (a.put o.dst undef) (w.setRow g cs)) : wpList P ops Q (o :: rest) a w :=
  wpList_store_row hgd ty x y ho g cs hx hy t old hg (by rw [hs]; exact hi) (by rw [hold, hs]) h1 h

theorem build_struct {P : Program} {ops : Array Oper} {rest : List Oper} {o : Oper} {a : Act} {w : World} {Q : Exit → Act → World → Prop} (ty : TypeId) (parts : Array (Nat × Operand)) (cs : Array Value) (hgd : o.guard = none) (ho : o.op = .build ty parts)
    (hb : P.built ty (parts.map fun (i, x) => (i, a.eval x)).toList = some cs) (h : wpList P ops Q rest (a.put o.dst (.agg cs)) w) : wpList P ops Q (o :: rest) a w :=
  wpList_build hgd ty parts ho (by rw [hb]; rfl) (by rw [hb]; exact h)
theorem Tryd.builtMsg (t tag : Int) : Tryd.prog.built 33 [(0, .int .u8 t), (1, .int .u16 tag)] = some #[.int .u8 t, .int .u16 tag, .int .u32 0, .string ⟨#[]⟩, .int .u32 0, .int .u32 0, .int .u32 0, .string ⟨#[]⟩, .string ⟨#[]⟩, .string ⟨#[]⟩, .int .u16 0, .slice none 0 0, .slice none 0 0,
  .int .u8 0, .int .u32 0, .int .u64 0, .int .u32 0, .int .u8 0, .int .u32 0, .string ⟨#[]⟩, .int .u64 0, .int .u32 0, .slice none 0 0,
  .int .u16 0, .int .u32 0, .int .u8 0, .int .u32 0, .int .u64 0, .int .u32 0, .int .u32 0, .int .u32 0, .int .u64 0, .string ⟨#[]⟩, .string ⟨#[]⟩, .string ⟨#[]⟩, .string ⟨#[]⟩] := by kernel_rfl
theorem zero_one (t tag : Nat) : (zeroCells t tag).all (fun x => x.oneCell') = true := by simp [zeroCells, Value.oneCell']

set_option maxHeartbeats 4000000 in
theorem whole_any (lo g : Nat) (bs : List UInt8) (w : World) (hI : InAt w lo g bs 0) (hT : Tabs w) (hgt : 1 < g ∧ 2 < g) (hb : bs.length ≤ 100000) :
    Calls Tryd.prog 35 #[.pointer (some ⟨g, 0, none⟩)] w (WholeStep w g (decM bs)) := by
  have hgl := hI.lt
  have k0 : Only (fun _ => False) w (w.alloc (.cells (zeroCells 0 0) 33)) := (Only.refl _ w).alloc _
  have r0 : Has (w.alloc (.cells (zeroCells 0 0) 33)) w.heap.size 33 (zeroCells 0 0) := Has.new _ _ _
  have c1 := take_any lo g 1 bs 0 (w.alloc (.cells (zeroCells 0 0) 33)) (hI.only k0 (fun _ _ _ h => h))
  have c2 : Calls Tryd.prog 54 #[.pointer (some ⟨g, 0, none⟩), .int .i64 1] (w.alloc (.cells (zeroCells 0 0) 33)) (fun e w' => e = .returned (.int .u64 (takeSt 1 bs 0).1) ∧ InAt w' lo g (takeSt 1 bs 0).2.1 (takeSt 1 bs 0).2.2 ∧ Only (fun i => i = g) w w' ∧ Hid (Has w' w.heap.size 33 (zeroCells 0 0))) :=
    c1.mono (by
      rintro e w' ⟨he, i1, f1⟩
      exact ⟨he, i1, (k0.mono (fun _ _ h => h.elim)).trans f1 (fun _ _ h => h), Lib.hid (r0.only f1 (by omega))⟩)
  have hlt1 := takeSt_lt 1 bs 0
  have hln1 := takeSt_len 1 bs 0
  obtain ⟨s1, hs1⟩ : ∃ s, s = takeSt 1 bs 0 := ⟨_, rfl⟩
  rw [show takeSt ((1 : Nat) : Int) bs 0 = s1 from hs1.symm] at hlt1
  rw [← hs1] at c2 hln1
  obtain ⟨t, b1, e1⟩ := s1
  simp only at c2 hlt1 hln1
  have hlt2 := takeSt_lt 2 b1 e1
  have hln2 := takeSt_len 2 b1 e1
  have hc2 := fun w' (h : InAt w' lo g b1 e1) => take_any lo g 2 b1 e1 w' h
  obtain ⟨s2, hs2⟩ : ∃ s, s = takeSt 2 b1 e1 := ⟨_, rfl⟩
  rw [show takeSt ((2 : Nat) : Int) b1 e1 = s2 from hs2.symm] at hlt2
  rw [← hs2] at hln2 hc2
  obtain ⟨tag, b3, e3⟩ := s2
  simp only at hlt2 hln2 hc2
  have hw1 : IntKind.u8.wrap (t : Int) = (t : Int) := IntWalk.u8_in _ (by omega)
  have hw2 : IntKind.u16.wrap (tag : Int) = (tag : Int) := IntWalk.u16_in _ (by omega)
  have HT := Lib.hid (fun w' (k : Only (fun i => i = g) w w') => hT.only k (by omega) (by omega))
  have HC2 := Lib.hid hc2
  have H1 := Lib.hid hs1.symm
  have H2 := Lib.hid hs2.symm
  clear hs1 hs2 hI hT k0 r0 hc2
  have C1 := Lib.hid c2
  clear c1 c2
  go_enter Tryd.func35, Tryd.ntmps35
  go_wp2_with fail
  refine C1.out.mono ?_
  rintro e w1 ⟨rfl, i1, k1, R1⟩
  have C2 := Lib.hid (HC2.out w1 i1)
  have K1 := Lib.hid k1
  clear C1 i1 k1 HC2
  go_wp2_with fail
  refine C2.out.mono ?_
  rintro e w2 ⟨rfl, i2, k2⟩
  have hsz := K1.out.size
  have hsz2 := k2.size
  have hlt0 := R1.out.lt
  have NW : Hid (Has (w2.alloc (.cells (zeroCells 0 0) 33)) w2.heap.size 33 (zeroCells 0 0)) := Has.new _ _ _
  obtain ⟨W2, hW2⟩ : ∃ W, W = (w2.alloc (.cells (zeroCells 0 0) 33)).setRow w2.heap.size (zeroCells t tag) := ⟨_, rfl⟩
  have kn : Only (fun _ => False) w2 W2 := by rw [hW2]; exact ((Only.refl _ w2).alloc _).setRow (fun h => absurd h (Nat.lt_irrefl _)) _
  have n2 : Has W2 w2.heap.size 33 (zeroCells t tag) := by rw [hW2]; exact NW.out.setRow _
  have s2 : w2.heap.size < W2.heap.size := n2.lt
  have kw : Only (fun i => i = g) w W2 := (K1.out.trans k2 (fun _ _ h => h)).trans kn (fun _ _ h => h.elim)
  have r2 : Has W2 w.heap.size 33 (zeroCells 0 0) := (R1.out.only k2 (by omega)).only kn (fun h => h)
  have i3 : InAt W2 lo g b3 e3 := i2.only kn (fun _ _ _ h => h)
  have C3 := named_any w2.heap.size t (zeroCells t tag) W2 n2 rfl
  have HW2 := Lib.hid hW2.symm
  clear C2 hW2 i2 k2 kn K1 R1
  cases hl : namedOf t with
  | none =>
    rw [hl] at C3
    have C4 := Lib.hid C3
    clear C3
    have HD : Hid (decM bs = none) := decM_unknown H1.out hl
    have KW := Lib.hid kw
    clear n2 kw r2 i3 H1 H2
    go_wp2_with (first
      | (refine build_struct 33 #[(0, .tmp 10), (1, .tmp 13)] (zeroCells t tag) rfl rfl (Tryd.builtMsg t tag) ?_)
      | (refine store_struct Tryd.msgSize w2.heap.size (zeroCells t tag) (.tmp 3) (.tmp 14) rfl rfl rfl rfl NW.out rfl rfl (zero_one t tag) ?_)
      | fail)
    refine (show Calls Tryd.prog 25 #[.pointer (some ⟨w2.heap.size, 0, none⟩)] ((w2.alloc (.cells (zeroCells 0 0) 33)).setRow w2.heap.size (zeroCells t tag)) (NamedStep W2 w2.heap.size _) from by rw [HW2.out]; exact C4.out).mono ?_
    rintro e w3 ⟨x, rfl, _, b4⟩
    have R : Hid (WholeStep w g (decM bs) (.panicked [{ v := .iface 36 (.int .i64 2), recovered := false }]) w3) := by
      rw [HD.out]
      exact ⟨rfl, KW.out.trans (Below.onlyNew b4) (fun _ _ h => h.elim)⟩
    clear C4 b4 HD KW HW2
    simp only [Option.isSome_none]
    go_wp2_with fail
    refine (must_no 2 w3).mono ?_
    rintro e w' ⟨rfl, rfl⟩
    go_wp2
    exact ⟨rfl, R.out⟩
  | some l =>
    rw [hl] at C3
    have C4 := Lib.hid C3
    clear C3
    obtain ⟨hstd, hl4⟩ := named_std hl
    obtain ⟨hpl, hnd⟩ := named_mem hl
    have HD := Lib.hid (decM_known H1.out H2.out hl)
    have I0 := Lib.hid (fun (w3 : World) (gg : Nat) (b4 : Below W2.heap.size W2 w3) (hgp : 0 < l.length → w2.heap.size < gg ∧ gg < w3.heap.size) (hls : ∀ i (h : i < l.length), w3.cell? ⟨gg, i, none⟩ = some (fieldV w2.heap.size l[i])) =>
      (show WI w lo g w2.heap.size gg t tag l bs.length (if e3 = 0 then tkL (l.map (·.1)) b3 else none) 0 b3 e3 (zeroCells t tag) (zeroM t tag) w3 from
        ⟨i3.only (Below.onlyNew b4) (fun _ _ _ h => h), n2.only (Below.onlyNew b4) (fun h => h), r2.only (Below.onlyNew b4) (fun h => h), hls, hgp, kw.trans (Below.onlyNew b4) (fun _ _ h => h.elim), zero_at _ _ _ _ _, fun _ _ _ => rfl,
          fun h => by rw [if_pos h]; simp [fieldsOf, preL_nil], fun h => by rw [if_neg h], by omega⟩))
    have HS := Lib.hid hstd
    have HP := Lib.hid hpl
    have HN := Lib.hid hnd
    clear n2 kw r2 i3 H1 H2 hstd hpl hnd
    go_wp2_with (first
      | (refine build_struct 33 #[(0, .tmp 10), (1, .tmp 13)] (zeroCells t tag) rfl rfl (Tryd.builtMsg t tag) ?_)
      | (refine store_struct Tryd.msgSize w2.heap.size (zeroCells t tag) (.tmp 3) (.tmp 14) rfl rfl rfl rfl NW.out rfl rfl (zero_one t tag) ?_)
      | fail)
    refine (show Calls Tryd.prog 25 #[.pointer (some ⟨w2.heap.size, 0, none⟩)] ((w2.alloc (.cells (zeroCells 0 0) 33)).setRow w2.heap.size (zeroCells t tag)) (NamedStep W2 w2.heap.size _) from by rw [HW2.out]; exact C4.out).mono ?_
    rintro e w3 ⟨x, rfl, hx, b4⟩
    obtain ⟨A, c, rfl, hx⟩ := hx
    simp only [Option.getD_some, List.length_map] at hx
    obtain ⟨gg, hA, hgp, hls⟩ : ∃ gg, (0 < l.length → A = some ⟨gg, 0, none⟩) ∧ (0 < l.length → w2.heap.size < gg ∧ gg < w3.heap.size) ∧ ∀ i (h : i < l.length), w3.cell? ⟨gg, i, none⟩ = some (fieldV w2.heap.size l[i]) := by
      rcases Nat.eq_zero_or_pos l.length with h0 | h0
      · exact ⟨0, fun h => by omega, fun h => by omega, fun i h => by omega⟩
      · obtain ⟨gg, e, h1, h2, h3⟩ := hx h0
        exact ⟨gg, fun _ => e, fun _ => ⟨by omega, h2⟩, fun i hi => by rw [h3 i (by simpa using hi)]; simp⟩
    have J0 := Lib.hid (I0.out w3 gg b4 hgp hls)
    have HA := Lib.hid hA
    clear C4 b4 I0 HW2 hx hA hgp hls
    simp only [Option.isSome_some, Option.getD_some, List.length_map]
    go_wp2_with fail
    refine (must_yes 2 w3).mono ?_
    rintro e w' ⟨rfl, rfl⟩
    go_wp2_with fail
    go_loopw [23] (fun i wr => ∃ (j : Nat) (rest : List UInt8) (er : Int) (cs : Array Value) (m : Nat → F), j ≤ l.length ∧ i = .int .i64 j ∧ Hid (WI w lo g w2.heap.size gg t tag l bs.length (if e3 = 0 then tkL (l.map (·.1)) b3 else none) j rest er cs m wr)) (fun i _ => l.length - (intOf i).toNat)
    case atStart => exact ⟨0, b3, e3, _, _, Nat.zero_le _, rfl, J0⟩
    case round =>
      obtain ⟨j, rest, er, cs, m, hj, rfl, hrel⟩ := hrel
      clear J0
      by_cases hlt : j < l.length
      · have hAe := HA.out (by omega)
        subst hAe
        have hcell := hrel.out.lst j hlt
        have hsd := HS.out l[j] (List.getElem_mem hlt)
        have i0 : (0 : Int) ≤ (j : Int) := by omega
        have i1 : (j : Int) < (l.length : Int) := by omega
        have hpi := places_in l[j] (HP.out _ (List.getElem_mem hlt))
        have hfw := hrel.out.few
        have C := takef_any lo g w2.heap.size l[j].2 l[j].1 rest er cs wr hrel.out.inn hrel.out.msg hsd.1 (HT.out _ hrel.out.low) hgt (by omega) (by omega) (by rw [hrel.out.mg.size]; exact hpi)
        have hfe : fieldV w2.heap.size l[j] = .iface l[j].1.ptr (.pointer (some ⟨w2.heap.size, l[j].2, none⟩)) := rfl
        rw [hfe] at hcell
        have fin : Hid (∀ e w4, TkF wr lo g w2.heap.size l[j].2 l[j].1 rest er cs e w4 →
            (e = .panicked [{ v := .iface 36 (.int .i64 2), recovered := false }] ∧ WholeStep w g (decM bs) e w4) ∨
            (e = .returned (.tuple #[]) ∧ ∃ rest' er' cs' m', WI w lo g w2.heap.size gg t tag l bs.length (if e3 = 0 then tkL (l.map (·.1)) b3 else none) (j + 1) rest' er' cs' m' w4)) := by
          rintro e w4 (⟨he, k, hn⟩ | ⟨f, cs', bs', er', he, hf, hm, hs, ha, ho, i4, k4, hl4, hy, hn⟩)
          · refine .inl ⟨he, ?_⟩
            rw [HD.out, hrel.out.stop hlt hn]
            refine ⟨he, hrel.out.low.trans k (fun i hi h => ?_)⟩
            rcases h with h | h
            · exact h
            · omega
          · exact .inr ⟨he, bs', er', cs', _, hrel.out.step hlt hgl (by omega) HP.out HN.out hf hm hs ha ho i4 k4 hl4 hy hn⟩
        obtain ⟨ty, hty⟩ : ∃ ty, ty = l[j].1.ptr := ⟨_, rfl⟩
        obtain ⟨off, hoff⟩ : ∃ off, off = l[j].2 := ⟨_, rfl⟩
        rw [← hty] at C hcell
        rw [← hoff] at C hcell fin
        have C' := Lib.hid C
        clear hrel hsd hpi hfw hfe hty hoff C
        go_wp2_with fail
        refine C'.out.mono ?_
        intro e w4 hst
        rcases fin.out e w4 hst with ⟨rfl, hR⟩ | ⟨rfl, rest', er', cs', m', hR⟩
        · have R := Lib.hid hR
          clear hst fin C' hcell hR
          go_wp2
          exact ⟨rfl, R.out⟩
        · have R := Lib.hid hR
          clear hst fin C' hcell hR
          go_wp2
          go_roundw
          case rel => exact ⟨j + 1, rest', er', cs', m', by omega, by go_num, R⟩
          case measure => simp [intOf]; omega
      · have hj4 : j = l.length := by omega
        subst hj4
        have hinn := hrel.out.inn
        have C4 := Lib.hid (err_any lo g rest er wr hinn)
        have C5 := Lib.hid (left_any lo g rest er wr hinn)
        have i1 : ¬ (l.length : Int) < (l.length : Int) := by omega
        clear hinn
        by_cases hz : er = 0
        · subst hz
          by_cases hr : rest = []
          · subst hr
            obtain ⟨hd, hm0, hm1, hok⟩ := hrel.out.fin hl hlt1 hlt2
            have hms := hrel.out.msg
            have hrs := hrel.out.res
            have hsz36 := hrel.out.mg.size
            have hone := hrel.out.mg.one
            have R : Hid (∀ w', w' = wr.setRow w.heap.size cs → WholeStep w g (decM bs) (.returned (.agg cs)) w') := by
              rintro w' rfl
              rw [HD.out, hd]
              have ks : Only (fun i => i = w.heap.size) wr (wr.setRow w.heap.size cs) := (Only.refl (fun i => i = w.heap.size) wr).setRow (fun _ => rfl) cs
              have hsr := ks.size
              exact ⟨cs, m, l, rfl, ((hrel.out.mg.keep (ks.keeps (Nat.le_refl _) (fun i hi _ h => by omega))).wide (by omega) hsr), hm0, hm1, hl, rfl, hok, hrel.out.low.setRow (fun h => absurd h (Nat.lt_irrefl _)) cs⟩
            have HMS := Lib.hid hms
            have HRS := Lib.hid hrs
            have HONE := Lib.hid hone
            have HSZ := Lib.hid hsz36
            clear hrel hms hrs hone hsz36 hd hm0 hm1 hok HD HT HS HP HN HA
            go_wp2_with fail
            refine C4.out.mono ?_
            rintro e w' ⟨rfl, rfl⟩
            go_wp2_with fail
            refine C5.out.mono ?_
            rintro e w' ⟨rfl, rfl⟩
            clear C4 C5
            go_wp2_with fail
            refine (must_yes 2 wr).mono ?_
            rintro e w' ⟨rfl, rfl⟩
            go_wp2_with (first
              | (refine load_struct Tryd.underlying33 rfl Tryd.msgSize w2.heap.size cs (.tmp 3) rfl rfl rfl HMS.out HSZ.out ?_)
              | (refine store_struct Tryd.msgSize w.heap.size cs (.tmp 2) (.tmp 40) rfl rfl rfl rfl HRS.out rfl HSZ.out HONE.out ?_)
              | fail)
            refine bodyPost_ret (results_cell_row rfl _ _ w.heap.size 33 cs (0, 0) _ rfl (HRS.out.setRow cs) Tryd.underlying33 rfl (by rw [HSZ.out]; exact Tryd.msgSize)) rfl ?_
            exact R.out _ rfl
          · have hd0 : ((rest.length : Int) == 0) = false := by
              have : 0 < rest.length := List.length_pos_iff.2 hr
              simp
              omega
            have R : Hid (WholeStep w g (decM bs) (.panicked [{ v := .iface 36 (.int .i64 2), recovered := false }]) wr) := by
              have hy := hrel.out.yes rfl
              rw [List.take_length, List.drop_length] at hy
              rw [HD.out, hy]
              have : endOf t tag (preL (fieldsOf m l) (tkL (([] : List (K × Nat)).map (·.1)) rest)) = none := by simp [endOf, preL, tkL, hr]
              rw [this]
              exact ⟨rfl, hrel.out.low⟩
            clear hrel HD HT HS HP HN HA hr
            go_wp2_with fail
            refine C4.out.mono ?_
            rintro e w' ⟨rfl, rfl⟩
            go_wp2_with fail
            refine C5.out.mono ?_
            rintro e w' ⟨rfl, rfl⟩
            clear C4 C5
            go_wp2_with fail
            refine (must_no 2 wr).mono ?_
            rintro e w' ⟨rfl, rfl⟩
            go_wp2
            exact ⟨rfl, R.out⟩
        · have hd0 : (er == 0) = false := by simpa using hz
          have R : Hid (WholeStep w g (decM bs) (.panicked [{ v := .iface 36 (.int .i64 2), recovered := false }]) wr) := by
            rw [HD.out, hrel.out.no hz]
            exact ⟨rfl, hrel.out.low⟩
          clear hrel HD HT HS HP HN HA hz
          go_wp2_with fail
          refine C4.out.mono ?_
          rintro e w' ⟨rfl, rfl⟩
          clear C4 C5
          go_wp2_with fail
          refine (must_no 2 wr).mono ?_
          rintro e w' ⟨rfl, rfl⟩
          go_wp2
          exact ⟨rfl, R.out⟩
end Go.Proofs.YtepiifbleoimkaaDoor
