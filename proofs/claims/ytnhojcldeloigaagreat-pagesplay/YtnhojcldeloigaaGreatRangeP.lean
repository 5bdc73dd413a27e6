/-
  A range over a function whose body may panic: one round, and the statement. Nothing of the program is used here.
-/
import Derived.Test.YtnhojcldeloigaaGreatMem
import Derived.RangeFuncBox
import Derived.RangeFuncLeaves
namespace Go.Proofs.YtnhojcldeloigaaGreat
open Go.RowKit

/-- How a round may be left: by its end, or by a panic. -/
def endOrPanic (P : Program) (l : Nat) (R : Ending → World → Prop) : Exit → Act → World → Prop
  | .normal, _, w => ∃ v w', (Instr.endRound l none).run P w = .ok v w' ∧ R (.returned v) w'
  | .panic chain, a, w => a.defers = [] ∧ R (.panicked chain) w
  | _, _, _ => False

theorem round_of_walk {F : Fence} {n : Nat} {P : Program} {l : Nat} {f : FuncId} {fn : Func} {tmps : Array Value} {assign body : Code} {w : World} {R : Ending → World → Prop} (hF : F.fn f) (hf : P.funcs[f]? = some fn)
    (h : assign.wpIn (F.inRound l) n P (Exit.then (fun a1 w1 => ∃ w2, (Instr.beginRound l).run P w1 = .ok () w2 ∧ body.wpIn (F.inRound l) n P (endOrPanic P l R) a1 w2) (fun _ _ _ => False)) { tmps := tmps, defers := [] } w) :
    RoundIn F n P l f tmps assign body w R := by
  refine ⟨hF, fun c cs hr => ?_⟩
  obtain ⟨b, hb⟩ : ∃ b : Frame, b = { (default : Frame) with fn := f, kind := .normal, roundOf := some l } := ⟨_, rfl⟩
  have bro : b.roundOf = (F.inRound l).round := by rw [hb]; rfl
  have bfn : b.fn = f := by rw [hb]
  have bk : b.kind = .normal := by rw [hb]
  have bl : b.roundOf = some l := by rw [hb]
  have hb0 : Frame.round l f tmps assign body .normal = b.atR { tmps := tmps, defers := [] } [.code assign, .beginRound, .code body] := by
    simp [Frame.round, Frame.atR, hb]
  have hr' : (F.inRound l).room ((c :: cs).length + 1 + n) := hr
  have hF' : (F.inRound l).fn b.fn := by rw [bfn]; exact hF
  obtain ⟨e, a1, w1, hq, harr⟩ := h b [.beginRound, .code body] (c :: cs) bro hF' hr'
  rw [← hb0] at harr
  cases e with
  | normal =>
    obtain ⟨w2, hbr, hbody⟩ := hq
    have s1 : StepsIn (Machine.fenced P (F.inRound l)) P (lone (b.atR a1 [.beginRound, .code body]) (c :: cs) w1) (lone (b.atR a1 [.code body]) (c :: cs) w2) :=
      .one (fenced_calm (fr := b.atR a1 [.beginRound, .code body]) hF' hr' rfl) (stepR_beginRound bl hbr)
    obtain ⟨e2, a2, w3, hq2, harr2⟩ := hbody b [] (c :: cs) bro hF' hr'
    cases e2 with
    | normal =>
      obtain ⟨v, w4, hend, hR⟩ := hq2
      exact ⟨.returned v, w4, hR, (StepsIn.trans harr s1).trans (StepsIn.trans harr2 (.one (fenced_calm (fr := b.atR a2 []) hF' hr' rfl) (stepR_round_end bl bk hend)))⟩
    | panic chain =>
      obtain ⟨hd, hR⟩ := hq2
      obtain ⟨todo, hs⟩ := harr2
      have hleave : Frame.leaving P { b.atR a2 todo with mode := .panicking chain } w3 (.panicked chain) := ⟨rfl, hd, fn, by show P.funcs[b.fn]? = some fn; rw [bfn]; exact hf⟩
      have hfen : (lone { b.atR a2 todo with mode := .panicking chain } (c :: cs) w3).fenced P F := fenced_leaving (n := n) (by show F.fn b.fn; rw [bfn]; exact hF) hr hleave
      exact ⟨.panicked chain, w3, hR, (StepsIn.trans harr s1).trans (StepsIn.trans hs (.one hfen (step_leave_panicked hleave)))⟩
    | ret => exact hq2.elim
    | exit id => exact hq2.elim
    | goto t => exact hq2.elim
    | outgrown => exact hq2.elim
  | exit id => exact hq.elim
  | goto t => exact hq.elim
  | ret => exact hq.elim
  | panic chain => exact hq.elim
  | outgrown => exact hq.elim

/-- A piece of code, walked in an activation of function f (which is no round). -/
def wpF (f : FuncId) (P : Program) (c : Code) (Q : Exit → Act → World → Prop) (a : Act) (w : World) : Prop :=
  ∀ (b : Frame) (k : List Item) (cs : List Frame), b.roundOf = none → b.fn = f → ∃ e a' w', Q e a' w' ∧ ArrivesIn (Machine.fenced P Fence.wide) P (lone (b.atR a (.code c :: k)) cs w) b k cs e a' w'
section
variable {f : FuncId} {P : Program} {Q : Exit → Act → World → Prop} {a : Act} {w : World} {x y c : Code}
theorem wpF_of_wp (h : c.wp P Q a w) : wpF f P c Q a w := fun b k cs hr _ => (wpIn_wide (n := 0)).2 h b k cs hr trivial (room_wide _)
theorem wpF_seq (h : wpF f P x (Exit.then (wpF f P y Q) Q) a w) : wpF f P (Code.seq x y) Q a w := by
  intro b k cs hro hb
  have h0 : (lone (b.atR a (.code (.seq x y) :: k)) cs w).fenced P Fence.wide := fenced_wide _ _
  obtain ⟨e, a1, w1, hq, harr⟩ := h b (.code y :: k) cs hro hb
  cases e with
  | normal =>
    obtain ⟨e2, a2, w2, hq2, harr2⟩ := hq b k cs hro hb
    exact ⟨e2, a2, w2, hq2, .of_steps (.head h0 stepR_seq harr) harr2⟩
  | exit id => exact ⟨_, a1, w1, hq, .of_steps (.one h0 stepR_seq) (.pass (x := .code y) rfl (fun _ _ => .inl (by simp)) harr)⟩
  | goto l => exact ⟨_, a1, w1, hq, .of_steps (.one h0 stepR_seq) (.pass (x := .code y) rfl (fun _ _ => .inl (by simp)) harr)⟩
  | ret => exact ⟨_, a1, w1, hq, .of_steps (.one h0 stepR_seq) (.pass (x := .code y) rfl (fun _ _ => .inl (by simp)) harr)⟩
  | panic ch => exact ⟨_, a1, w1, hq, .of_steps (.one h0 stepR_seq) (.pass (x := .code y) rfl (fun _ _ => .inl (by simp)) harr)⟩
  | outgrown => exact ⟨_, a1, w1, hq, .of_steps (.one h0 stepR_seq) (.pass (x := .code y) rfl (fun _ _ => .inl (by simp)) harr)⟩
/-- A function's contract from its body, where marks may stand among its deferred calls. -/
theorem calls_of_wpF {fn : Func} {args : Array Value} {R : Ending → World → Prop} (hf : P.funcs[f]? = some fn) (hb : fn.body = some c)
    (h : wpF f P c (bodyPostM Fence.wide 0 P fn R) { tmps := args ++ Array.replicate (fn.ntmps - args.size) undef, defers := [] } w) : Calls P f args w R := by
  refine (callsIn_wide (n := 0)).1 ⟨trivial, fun cs hr => ?_⟩
  obtain ⟨b, hbd⟩ : ∃ b : Frame, b = { (default : Frame) with fn := f, kind := .normal, roundOf := none } := ⟨_, rfl⟩
  have henter : Frame.enter P f args .normal = b.atR { tmps := args ++ Array.replicate (fn.ntmps - args.size) undef, defers := [] } [.code c] := by
    simp [Frame.enter, Frame.atR, hf, hb, hbd]
  have bro : b.roundOf = none := by rw [hbd]
  have bfn : b.fn = f := by rw [hbd]
  have bk : b.kind = .normal := by rw [hbd]
  have bf : P.funcs[b.fn]? = some fn := by rw [bfn]; exact hf
  obtain ⟨e, a', w', hq, harr⟩ := h b [] cs bro bfn
  rw [← henter] at harr
  cases e with
  | normal =>
    obtain ⟨e', w2, fr', hR, hs, hfn, hl⟩ := leaves_stepsInM a'.defers .returning w' { b.atR a' [] with mode := .returning } cs rfl rfl rfl bf bk trivial hr hq
    exact ⟨e', w2, fr', hR, ComesIn.of_steps (StepsIn.trans harr (.one (fenced_wide _ _) (stepR_end bro))) hs, hfn.trans bfn, hl⟩
  | ret =>
    obtain ⟨todo, hs0⟩ := harr.1 bro
    obtain ⟨e', w2, fr', hR, hs, hfn, hl⟩ := leaves_stepsInM a'.defers .returning w' { b.atR a' todo with mode := .returning } cs rfl rfl rfl bf bk trivial hr hq
    exact ⟨e', w2, fr', hR, ComesIn.of_steps hs0 hs, hfn.trans bfn, hl⟩
  | panic chain =>
    obtain ⟨todo, hs0⟩ := harr
    obtain ⟨e', w2, fr', hR, hs, hfn, hl⟩ := leaves_stepsInM a'.defers (.panicking chain) w' { b.atR a' todo with mode := .panicking chain } cs rfl rfl rfl bf bk trivial hr hq
    exact ⟨e', w2, fr', hR, ComesIn.of_steps hs0 hs, hfn.trans bfn, hl⟩
  | exit id => exact hq.elim
  | goto l => exact hq.elim
  | outgrown => exact ⟨.outgrown, w', b, hq, harr.resolve_left (by rw [bk]; simp), bfn, trivial⟩

theorem wpF_block {id : Nat} (h : wpF f P c (Exit.inBlock id Q) a w) : wpF f P (Code.block id c) Q a w := by
  intro b k cs hro hb
  have h0 : (lone (b.atR a (.code (.block id c) :: k)) cs w).fenced P Fence.wide := fenced_wide _ _
  obtain ⟨e, a1, w1, hq, harr⟩ := h b (.inBlock id :: k) cs hro hb
  cases e with
  | normal => exact ⟨.normal, a1, w1, hq, .head h0 stepR_block (StepsIn.trans harr (.one (fenced_wide _ _) stepR_inBlock))⟩
  | exit id' =>
    by_cases hid : id' = id
    · simp only [Exit.inBlock, hid, if_true] at hq
      exact ⟨.normal, a1, w1, hq, .head h0 stepR_block (harr.1 k (by simp [exitTo, hid]))⟩
    · simp only [Exit.inBlock, hid, if_false] at hq
      have this : (id == id') = false := by simp; exact fun h => hid h.symm
      have hx : exitTo id' (.inBlock id :: k) = exitTo id' k := by simp [exitTo, this]
      exact ⟨.exit id', a1, w1, hq, fun k' hk => .head h0 stepR_block (harr.1 k' (by rw [hx]; exact hk)),
        fun hr' hk => let ⟨k1, h1, h2⟩ := harr.2 hr' (by rw [hx]; exact hk); ⟨k1, h1, .head h0 stepR_block h2⟩⟩
  | goto l =>
    have hx : gotoIn l (.inBlock id :: k) = gotoIn l k := by simp [gotoIn]
    exact ⟨_, a1, w1, hq, fun k' hk => .head h0 stepR_block (harr.1 k' (by rw [hx]; exact hk)),
      fun hr' hk => let ⟨k1, h1, h2⟩ := harr.2 hr' (by rw [hx]; exact hk); ⟨k1, h1, .head h0 stepR_block h2⟩⟩
  | ret => exact ⟨_, a1, w1, hq, .of_steps (.one h0 stepR_block) harr⟩
  | panic ch => exact ⟨_, a1, w1, hq, .of_steps (.one h0 stepR_block) harr⟩
  | outgrown => exact ⟨_, a1, w1, hq, .of_steps (.one h0 stepR_block) harr⟩

/-- What is asked when the function that was ranged over has ended. -/
def behindRange (P : Program) (l : Nat) (Q : Exit → Act → World → Prop) (a' : Act) : Ending → World → Prop
  | .returned _, w3 => ∃ w4, (Instr.endLoop l).run P w3 = .ok none w4 ∧ Q .normal a' w4
  | .panicked chain, w3 => Q (.panic chain) a' w3
  | .outgrown, _ => False
theorem wpF_rangeFunc {g : Operand} {ps : Array Tmp} {assign body : Code} {l : Nat} {mark : List Deferred} {w1 w1' w2 : World} {d : Deferred} {q : FuncId} {args : Array Value}
    (he : (Instr.enterLoop f a.tmps ps assign body none).run P w = .ok (l, mark) w1) (hres : (resolve a.eval (rangeCall g l) 0).run P w1 = .ok d w1') (hinv : (invoke d.target d.args).run P w1' = .ok (.enter q args) w2)
    (hcall : Calls P q args w2 (behindRange P l Q { a with defers := mark ++ a.defers })) : wpF f P (Code.rangeFunc g ps assign body) Q a w := by
  intro b k cs hro hb
  rw [← hb, ← hro] at he
  have henter := stepR_rangeFunc (P := P) (b := b) (a := a) (k := k) (cs := cs) (w := w) he hres hinv
  obtain ⟨e, w3, fr, hR, hsteps, _, hleave⟩ := ((callsIn_wide (n := 0)).2 hcall).2 (b.atR { a with defers := mark ++ a.defers } (.inRangeFunc l :: k) :: cs) (room_wide _)
  cases e with
  | outgrown => exact hR.elim
  | returned v =>
    obtain ⟨w4, hend, hj⟩ := hR
    refine ⟨.normal, _, w4, hj, .head (fenced_wide _ _) henter (StepsIn.trans hsteps (.head (fenced_wide _ _) ?_ (.one (fenced_wide _ _) (stepR_endRangeFunc hend))))⟩
    rw [← finish_atR_inRangeFunc l v]
    exact step_leave_returned hleave
  | panicked chain =>
    refine ⟨.panic chain, _, w3, hR, .inRangeFunc l :: k, .head (fenced_wide _ _) henter (StepsIn.trans hsteps (.one (fenced_wide _ _) ?_))⟩
    rw [← Frame.raise_atR]
    exact step_leave_panicked hleave
end

/-- What an iterator hands over: all of it, or it ends in the panic of a round. -/
def SeqPanics {α : Type} (P : Program) (q : Nat) (lb : Array Value) (encs : α → Array Value) (Kp : World → World → Prop) (S : List α → Prop) (Nx : List α → α → Prop) (w : World) : Prop :=
  ∀ (l : Nat) (J : List α → World → Prop) (Jp : List PanicEntry → World → Prop) (W : World), Only (fun _ => False) w W → (∀ pre W, J pre W → J pre W.drew) →
    (∀ pre x W1, J pre W1 → Nx pre x → YieldAt Fence.wide 3 P l (encs x) W1 fun e W' => (e = .returned (.bool true) ∧ J (pre ++ [x]) W' ∧ Kp W1 W') ∨ (∃ chain, e = .panicked chain ∧ Jp chain W')) →
    J [] W → Calls P q (#[.func (.yield l) #[] #[]] ++ lb) W fun e W' => ((∃ v, e = .returned v) ∧ ∃ xs, S xs ∧ J xs W') ∨ (∃ chain, e = .panicked chain ∧ Jp chain W')

/-- The statement, over such an iterator. I: what holds between two rounds; Ip: behind a panic. -/
theorem wpF_range {α : Type} {f : FuncId} {fn : Func} {P : Program} {Q : Exit → Act → World → Prop} {a : Act} {w : World} {g : Operand} {ps : Array Tmp} {assign body : Code} (hf : P.funcs[f]? = some fn)
    {gf : Nat} {lb : Array Value} (hg : a.eval g = .func (.func gf) #[] lb) (eg : ∀ args w, (callFunc gf args).run P w = .ok (.enter gf args) w)
    {encs : α → Array Value} {Kp : World → World → Prop} {S : List α → Prop} {Nx : List α → α → Prop} (hseq : SeqPanics P gf lb encs Kp S Nx w)
    (hKp : ∀ W W1 W2 W3, w.heap.size + 1 < W.heap.size → Only (fun i => i = w.heap.size + 1) W W1 → W1.heap.size ≤ W2.heap.size → Kp W1 W2 → Only (fun i => i = w.heap.size + 1) W2 W3 → Kp W W3) (hps : ∀ x, (encs x).size = ps.size)
    (I : List α → World → Prop) (Ip : List PanicEntry → World → Prop) (h0 : ∀ W, Only (fun _ => False) w W → W.heap.size = w.heap.size + 2 → I [] W)
    (hI : ∀ pre W W', I pre W → Only (fun i => i = w.heap.size + 1) W W' → I pre W') (a1 : α → Act)
    (hassign : ∀ (l : Nat) (x : α) (W : World) (K : Act → World → Prop), K (a1 x) W →
      assign.wpIn (Fence.wide.inRound l) 3 P (Exit.then K (fun _ _ _ => False)) { tmps := (ps.zip (encs x)).foldl (fun t (p, v) => t.setIfInBounds p v) a.tmps, defers := [] } W)
    (hbody : ∀ (l : Nat) (pre : List α) (x : α) (W : World), I pre W → Nx pre x → body.wpIn (Fence.wide.inRound l) 3 P (fun e a' W' => match e with
      | .normal => (Only (fun i => i ≠ w.heap.size ∧ i ≠ w.heap.size + 1) W W' ∧ Kp W W') ∧ I (pre ++ [x]) W'
      | .panic chain => a'.defers = [] ∧ Only (fun i => i ≠ w.heap.size ∧ i ≠ w.heap.size + 1) W W' ∧ Ip chain W'
      | _ => False) (a1 x) W)
    (hdone : ∀ (xs : List α) (W : World), S xs → I xs W → W.heap[w.heap.size]? = some (.deferred (some [])) → Q .normal { a with defers := { target := .collected w.heap.size, args := #[] } :: a.defers } W)
    (hpanic : ∀ (chain : List PanicEntry) (W : World), Ip chain W → W.heap[w.heap.size]? = some (.deferred (some [])) → Q (.panic chain) { a with defers := { target := .collected w.heap.size, args := #[] } :: a.defers } W) :
    wpF f P (Code.rangeFunc g ps assign body) Q a w := by
  obtain ⟨rec, hrec⟩ : ∃ rec : LoopState → Option Code → Loop, rec = fun st pe => { state := st, pending := pe, fn := f, tmps := a.tmps, params := ps, assign, body, defers := w.heap.size } := ⟨_, rfl⟩
  obtain ⟨W1, hW1⟩ : ∃ W1, (w.alloc (.deferred (some []))).alloc (.loop (rec .ready none)) = W1 := ⟨_, rfl⟩
  have hL1 : W1.heap[w.heap.size + 1]? = some (.loop (rec .ready none)) := by
    rw [← hW1]
    have := World.alloc_heap_new (w.alloc (.deferred (some []))) (.loop (rec .ready none))
    rwa [World.size_alloc] at this
  have hK1 : W1.heap[w.heap.size]? = some (.deferred (some [])) := by
    rw [← hW1]
    exact (Below.heap_alloc _ _ _ (by simp)).trans (World.alloc_heap_new w _)
  have k1 : Only (fun _ => False) w W1 := by
    rw [← hW1]
    exact ((Only.refl _ w).alloc _).alloc _
  have s1 : W1.heap.size = w.heap.size + 2 := by rw [← hW1]; simp
  refine wpF_rangeFunc (l := w.heap.size + 1) (mark := [{ target := .collected w.heap.size, args := #[] }]) (w1 := W1) (w1' := W1) (w2 := W1) (d := { target := .fn (.func gf) lb, args := #[.func (.yield (w.heap.size + 1)) #[] #[]] }) (q := gf)
    (args := #[.func (.yield (w.heap.size + 1)) #[] #[]] ++ lb) ?_ ?_ ?_ ?_
  · rw [← hW1, hrec]
    exact run_enterLoop_outer _ _ _ _ _
  · simp only [resolve, hg]
    simp [go_sem]
  · simp [invoke, go_sem, eg]
  · refine (hseq (w.heap.size + 1) (fun pre W => I pre W ∧ W.heap[w.heap.size + 1]? = some (.loop (rec .ready none)) ∧ W.heap[w.heap.size]? = some (.deferred (some [])))
      (fun chain W => Ip chain W ∧ W.heap[w.heap.size]? = some (.deferred (some []))) W1 k1 (fun pre W hh => ⟨hI pre W _ hh.1 ((Only.refl _ W).drew), hh.2.1, hh.2.2⟩) ?_ ⟨h0 W1 k1 s1, hL1, hK1⟩).mono ?_
    · rintro pre x W ⟨hi, hl, hk⟩ hlen
      have hlt : w.heap.size + 1 < W.heap.size := (Array.getElem?_eq_some_iff.1 hl).1
      have hy := run_yield (P := P) (args := encs x) hl (by rw [hrec]; exact hps x)
      rw [hrec] at hy
      refine ⟨f, _, assign, body, hy, round_of_walk trivial hf (hassign _ x W _ ⟨_, run_beginRound hl (by rw [hrec]), ?_⟩)⟩
      obtain ⟨W2, hW2⟩ : ∃ W2, W.putObj (w.heap.size + 1) (.loop { rec .ready none with state := .busy }) = W2 := ⟨_, rfl⟩
      rw [hW2]
      have hl2 : W2.heap[w.heap.size + 1]? = some (.loop { rec .ready none with state := .busy }) := by rw [← hW2]; exact World.putObj_heap_same hlt
      have hk2 : W2.heap[w.heap.size]? = some (.deferred (some [])) := by rw [← hW2]; exact (World.putObj_heap_other (by omega)).trans hk
      have k2 : Only (fun i => i = w.heap.size + 1) W W2 := by rw [← hW2]; exact (Only.of_grown (grownBy_putObj' W _ _)).mono (fun i _ e => by injection e)
      refine wpIn_mono (hbody _ pre x W2 (hI pre W W2 hi k2) hlen) ?_
      rintro e a3 W3 hp
      cases e with
      | normal =>
        obtain ⟨⟨o3, q3⟩, i3⟩ := hp
        have hl3 : W3.heap[w.heap.size + 1]? = some (.loop { rec .ready none with state := .busy }) := (o3.block _ (Array.getElem?_eq_some_iff.1 hl2).1 (fun h => h.2 rfl)).trans hl2
        have hk3 : W3.heap[w.heap.size]? = some (.deferred (some [])) := (o3.block _ (Array.getElem?_eq_some_iff.1 hk2).1 (fun h => h.1 rfl)).trans hk2
        have hr := run_endRound (P := P) none hl3
        have k4 : Only (fun i => i = w.heap.size + 1) W3 (W3.putObj (w.heap.size + 1) (.loop { rec .ready none with state := .ready, pending := none })) := (Only.of_grown (grownBy_putObj' W3 _ _)).mono (fun i _ e => by injection e)
        refine ⟨_, _, hr, .inl ⟨rfl, ⟨hI _ _ _ i3 k4, ?_, (World.putObj_heap_other (by omega)).trans hk3⟩, hKp _ _ _ _ hlt k2 o3.size q3 k4⟩⟩
        have := World.putObj_heap_same (o := Obj.loop { rec .ready none with state := .ready, pending := none }) (Array.getElem?_eq_some_iff.1 hl3).1
        rw [hrec] at this ⊢
        exact this
      | panic chain =>
        obtain ⟨hd, o3, q3⟩ := hp
        exact ⟨hd, .inr ⟨chain, rfl, q3, (o3.block _ (Array.getElem?_eq_some_iff.1 hk2).1 (fun h => h.1 rfl)).trans hk2⟩⟩
      | ret => exact hp.elim
      | exit id => exact hp.elim
      | goto t => exact hp.elim
      | outgrown => exact hp.elim
    · rintro e W2 (⟨⟨v, rfl⟩, xs, hS, hi, hl, hk⟩ | ⟨chain, rfl, hp, hk⟩)
      · refine ⟨_, by have := run_endLoop (P := P) hl (by rw [hrec]; simp); rw [hrec] at this; exact this, hdone xs _ hS (hI _ _ _ hi ((Only.of_grown (grownBy_putObj' W2 _ _)).mono (fun i _ e => by injection e))) ((World.putObj_heap_other (by omega)).trans hk)⟩
      · exact hpanic chain _ hp hk
end Go.Proofs.YtnhojcldeloigaaGreat
