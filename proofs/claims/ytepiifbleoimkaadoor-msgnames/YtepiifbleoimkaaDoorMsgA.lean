/-
  What a message's fields are in bytes, and what bytes tell of them.
-/
import Derived.Test.YtepiifbleoimkaaDoorStatG
namespace Go.Proofs.YtepiifbleoimkaaDoor
open Go.RowKit

/-- A field's kind; a field. -/
inductive K where
  | num (n : Nat) | text | texts | qid | qids | data | stat
  deriving DecidableEq
inductive F where
  | num (n x : Nat) | text (l : List UInt8) | texts (L : List (List UInt8)) | qid (q : Q3) | qids (Q : List Q3) | data (b : List UInt8) | stat (s : S11)
def F.kind : F → K
  | .num n _ => .num n
  | .text _ => .text
  | .texts _ => .texts
  | .qid _ => .qid
  | .qids _ => .qids
  | .data _ => .data
  | .stat _ => .stat
/-- What a field's type allows. -/
def F.Ok : F → Prop
  | .num n x => 1 ≤ n ∧ n ≤ 8 ∧ x < 256 ^ n
  | .qid q => q.Ok
  | .qids Q => ∀ q ∈ Q, q.Ok
  | .stat s => s.Num
  | _ => True
/-- Not beyond what a walk needs. -/
def F.Few : F → Prop
  | .text l => l.length ≤ 1000
  | .texts L => L.length ≤ 1000 ∧ ∀ l ∈ L, l.length ≤ 1000
  | .qids Q => Q.length ≤ 1000
  | .data b => b.length ≤ 100000
  | .stat s => s.Few
  | _ => True
def qidsB (Q : List Q3) : List UInt8 := Q.flatMap qidB
/-- Why it may not go into a message; its bytes. -/
def fErr : F → Int
  | .text l => wrongOf l
  | .texts L => if 16 < L.length then 3 else wrongL L
  | .qids Q => if 16 < Q.length then 3 else 0
  | .data b => if 8192 < b.length then 3 else 0
  | .stat s => wrongL s.texts
  | _ => 0
def fB : F → List UInt8
  | .num n x => putB n x
  | .text l => textB l
  | .texts L => putB 2 L.length ++ textsB L
  | .qid q => qidB q
  | .qids Q => putB 2 Q.length ++ qidsB Q
  | .data b => putB 4 b.length ++ b
  | .stat s => putB 2 s.size ++ recB s
def fErrL : List F → Int
  | [] => 0
  | f :: r => if fErr f = 0 then fErrL r else fErr f
def fBL (l : List F) : List UInt8 := l.flatMap fB

/-- What bytes tell: a number; as many as that; a qid; one of a kind; one of each kind. -/
def tkN (n : Nat) (bs : List UInt8) : Option (Nat × List UInt8) := if (takeSt (n : Int) bs 0).2.2 = 0 then some ((takeSt (n : Int) bs 0).1, (takeSt (n : Int) bs 0).2.1) else none
def tkRaw (n : Nat) (bs : List UInt8) : Option (List UInt8 × List UInt8) := if (rawSt (n : Int) bs 0).2.2 = 0 then some ((rawSt (n : Int) bs 0).1, (rawSt (n : Int) bs 0).2.1) else none
def tkQ (bs : List UInt8) : Option (Q3 × List UInt8) := if (qTake bs 0).2.2 = 0 then some ((qTake bs 0).1, (qTake bs 0).2.1) else none
def tkMany {α : Type} (one : List UInt8 → Option (α × List UInt8)) : Nat → List UInt8 → Option (List α × List UInt8)
  | 0, bs => some ([], bs)
  | n + 1, bs => (one bs).bind fun x => (tkMany one n x.2).map fun y => (x.1 :: y.1, y.2)
def tkRec (b : List UInt8) : Option S11 := match firstOf b with
  | .ok (s, []) => some s
  | _ => none
def tkF : K → List UInt8 → Option (F × List UInt8)
  | .num n, bs => (tkN n bs).map fun x => (.num n x.1, x.2)
  | .text, bs => (textSt bs 0).map fun x => (.text x.1, x.2)
  | .texts, bs => (tkN 2 bs).bind fun n => if 16 < n.1 then none else (tkMany (fun b => textSt b 0) n.1 n.2).map fun x => (.texts x.1, x.2)
  | .qid, bs => (tkQ bs).map fun x => (.qid x.1, x.2)
  | .qids, bs => (tkN 2 bs).bind fun n => if 16 < n.1 then none else (tkMany tkQ n.1 n.2).map fun x => (.qids x.1, x.2)
  | .data, bs => (tkN 4 bs).bind fun n => if 8192 < n.1 then none else (tkRaw n.1 n.2).map fun x => (.data x.1, x.2)
  | .stat, bs => (tkN 2 bs).bind fun n => (tkRaw n.1 n.2).bind fun x => (tkRec x.1).map fun s => (.stat s, x.2)
def tkL : List K → List UInt8 → Option (List F × List UInt8)
  | [], bs => some ([], bs)
  | k :: r, bs => (tkF k bs).bind fun x => (tkL r x.2).map fun y => (x.1 :: y.1, y.2)

/-! There and back. -/
theorem tkN_item {n x : Nat} (rest : List UInt8) (h1 : 1 ≤ n) (h8 : n ≤ 8) (hx : x < 256 ^ n) : tkN n (putB n x ++ rest) = some (x, rest) := by
  rw [tkN, take_num n x rest h1 h8 hx]
  rfl
theorem tkRaw_item (b rest : List UInt8) : tkRaw b.length (b ++ rest) = some (b, rest) := by
  rw [tkRaw, raw_item]
  rfl
theorem tkQ_item {q : Q3} (rest : List UInt8) (h : q.Ok) : tkQ (qidB q ++ rest) = some (q, rest) := by
  rw [tkQ, qTake_item q rest h]
  rfl
theorem tkMany_item {α : Type} {one : List UInt8 → Option (α × List UInt8)} {B : α → List UInt8} (rest : List UInt8) : ∀ (L : List α), (∀ x ∈ L, ∀ r, one (B x ++ r) = some (x, r)) → tkMany one L.length (L.flatMap B ++ rest) = some (L, rest)
  | [], _ => rfl
  | x :: L, h => by
    rw [List.length_cons, tkMany, List.flatMap_cons, List.append_assoc, h x (by simp)]
    simp [tkMany_item rest L (fun y hy => h y (by simp [hy]))]
theorem wrongL_mem {L : List (List UInt8)} (h : wrongL L = 0) : ∀ l ∈ L, wrongOf l = 0 := by
  induction L with
  | nil => simp
  | cons a L ih =>
    rw [wrongL] at h
    split at h
    · rename_i h0
      intro l hl
      rcases List.mem_cons.1 hl with rfl | hl
      · exact h0
      · exact ih h l hl
    · rename_i h0
      exact absurd h h0
theorem wrongL_of {L : List (List UInt8)} (h : ∀ l ∈ L, wrongOf l = 0) : wrongL L = 0 := by
  induction L with
  | nil => rfl
  | cons a L ih => rw [wrongL, if_pos (h a (by simp)), ih (fun l hl => h l (by simp [hl]))]
theorem tkRec_item {s : S11} (h : s.Num) (h0 : wrongL s.texts = 0) : tkRec (recB s) = some s := by
  have := firstOf_item [] h h0
  rw [List.append_nil] at this
  unfold tkRec
  rw [this]
theorem size_short {s : S11} (h : wrongL s.texts = 0) : s.size ≤ 400 := by
  obtain ⟨h1, h2, h3, h4⟩ := wrong4 h
  have := wrongOf_short h1
  have := wrongOf_short h2
  have := wrongOf_short h3
  have := wrongOf_short h4
  unfold S11.size
  omega
theorem tkF_item {f : F} (rest : List UInt8) (h : f.Ok) (h0 : fErr f = 0) : tkF f.kind (fB f ++ rest) = some (f, rest) := by
  cases f with
  | num n x => simp [F.kind, tkF, fB, tkN_item rest h.1 h.2.1 h.2.2]
  | text l => simp [F.kind, tkF, fB, textSt_item (rest := rest) h0]
  | texts L =>
    have hl : L.length ≤ 16 := by
      simp only [fErr] at h0
      split at h0
      · cases h0
      · omega
    have hw : wrongL L = 0 := by
      simp only [fErr] at h0
      rwa [if_neg (by omega)] at h0
    have hm := wrongL_mem hw
    simp only [F.kind, tkF, fB, List.append_assoc]
    rw [tkN_item _ (by omega) (by omega) (by omega)]
    simp only [Option.bind_some, if_neg (Nat.not_lt.2 hl)]
    rw [show textsB L = L.flatMap textB from rfl, tkMany_item rest L (fun x hx r => textSt_item (hm x hx))]
    rfl
  | qid q => simp [F.kind, tkF, fB, tkQ_item rest h]
  | qids Q =>
    have hl : Q.length ≤ 16 := by
      simp only [fErr] at h0
      split at h0
      · cases h0
      · omega
    simp only [F.kind, tkF, fB, List.append_assoc]
    rw [tkN_item _ (by omega) (by omega) (by omega)]
    simp only [Option.bind_some, if_neg (Nat.not_lt.2 hl)]
    rw [show qidsB Q = Q.flatMap qidB from rfl, tkMany_item rest Q (fun x hx r => tkQ_item r (h x hx))]
    rfl
  | data b =>
    have hl : b.length ≤ 8192 := by
      simp only [fErr] at h0
      split at h0
      · cases h0
      · omega
    simp only [F.kind, tkF, fB, List.append_assoc]
    rw [tkN_item _ (by omega) (by omega) (by omega)]
    simp only [Option.bind_some, if_neg (Nat.not_lt.2 hl)]
    rw [tkRaw_item]
    rfl
  | stat s =>
    have hz := size_short h0
    have hr := recB_length h0
    simp only [F.kind, tkF, fB, List.append_assoc]
    rw [tkN_item _ (by omega) (by omega) (by omega)]
    simp only [Option.bind_some]
    rw [← hr, tkRaw_item]
    simp only [Option.bind_some]
    rw [tkRec_item h h0]
    rfl
theorem fErrL_cons {f : F} {l : List F} (h : fErrL (f :: l) = 0) : fErr f = 0 ∧ fErrL l = 0 := by
  rw [fErrL] at h
  split at h
  · rename_i h0
    exact ⟨h0, h⟩
  · rename_i h0
    exact absurd h h0
theorem tkL_item (rest : List UInt8) : ∀ (l : List F), (∀ f ∈ l, f.Ok) → fErrL l = 0 → tkL (l.map F.kind) (fBL l ++ rest) = some (l, rest)
  | [], _, _ => rfl
  | f :: l, h, h0 => by
    obtain ⟨h1, h2⟩ := fErrL_cons h0
    rw [List.map_cons, tkL, show fBL (f :: l) = fB f ++ fBL l from by simp [fBL], List.append_assoc, tkF_item _ (h f (by simp)) h1]
    simp [tkL_item rest l (fun g hg => h g (by simp [hg])) h2]

/-! What is one has just those bytes. -/
theorem putB_cons (n x : Nat) : putB (n + 1) x = UInt8.ofNat x :: putB n (x / 256) := by
  unfold putB
  rw [List.range_succ_eq_map, List.map_cons, List.map_map]
  congr 1
  apply List.map_congr_left
  intro j _
  simp only [Function.comp]
  congr 1
  rw [show 8 * (j + 1) = 8 + 8 * j from by omega, Nat.shiftRight_add]
  congr 1
  rw [Nat.shiftRight_eq_div_pow]
theorem putB_le (l : List UInt8) : putB l.length (le l) = l := by
  induction l with
  | nil => rfl
  | cons c l ih =>
    rw [List.length_cons, putB_cons, le]
    have hc := c.toNat_lt
    rw [show (c.toNat + 256 * le l) / 256 = le l from by omega, ih]
    congr 1
    apply UInt8.toNat_inj.1
    rw [UInt8.toNat_ofNat']
    omega
theorem tkN_some {n x : Nat} {bs r : List UInt8} (h1 : 1 ≤ n) (h8 : n ≤ 8) (h : tkN n bs = some (x, r)) : bs = putB n x ++ r ∧ x < 256 ^ n := by
  unfold tkN at h
  split at h
  · rename_i h0
    injection h with h
    injection h with ha hb
    by_cases hl : (bs.length : Int) < n
    · rw [takeSt_short _ _ (by omega) (by omega) hl] at h0
      cases h0
    · rw [takeSt_long _ _ (by omega) (by omega) (by omega)] at ha hb
      simp only [Int.toNat_natCast] at ha hb
      have hlen : (bs.take n).length = n := by rw [List.length_take]; omega
      have hp := putB_le (bs.take n)
      rw [hlen, ha] at hp
      refine ⟨?_, ?_⟩
      · rw [hp, ← hb, List.take_append_drop]
      · have := le_lt (bs.take n)
        rw [hlen, ha] at this
        exact this
  · cases h
theorem tkRaw_some {n : Nat} {bs b r : List UInt8} (h : tkRaw n bs = some (b, r)) : bs = b ++ r ∧ b.length = n := by
  unfold tkRaw at h
  split at h
  · rename_i h0
    injection h with h
    injection h with ha hb
    have hs : (rawSt (n : Int) bs 0) = (bs.take n, bs.drop n, 0) ∧ n ≤ bs.length := by
      unfold rawSt at h0 ⊢
      rw [if_neg (by simp), if_neg (by omega)] at h0 ⊢
      split at h0
      · cases h0
      · rename_i hl
        rw [if_neg hl]
        exact ⟨by simp, by omega⟩
    rw [hs.1] at ha hb
    simp only at ha hb
    subst ha hb
    exact ⟨(List.take_append_drop _ _).symm, by rw [List.length_take]; omega⟩
  · cases h
theorem take2_some {n x : Nat} {bs r : List UInt8} (h1 : 1 ≤ n) (h8 : n ≤ 8) (h0 : (takeSt (n : Int) bs 0).2.2 = 0) (hx : (takeSt (n : Int) bs 0).1 = x) (hr : (takeSt (n : Int) bs 0).2.1 = r) : bs = putB n x ++ r :=
  (tkN_some h1 h8 (by rw [tkN, if_pos h0, hx, hr])).1
theorem takeSt_bad {n : Int} {bs : List UInt8} {er : Int} (h : er ≠ 0) : (takeSt n bs er).2.2 ≠ 0 := by rw [takeSt_err n bs er h]; exact h
theorem tkQ_some {bs r : List UInt8} {q : Q3} (h : tkQ bs = some (q, r)) : bs = qidB q ++ r ∧ q.Ok := by
  unfold tkQ at h
  split at h
  · rename_i h0
    injection h with h
    injection h with ha hb
    refine ⟨?_, by rw [← ha]; exact qTake_ok _ _⟩
    unfold qTake at h0 ha hb
    simp only at h0 ha hb
    rw [if_pos h0] at ha
    have h2 : (takeSt 4 (takeSt 1 bs 0).2.1 (takeSt 1 bs 0).2.2).2.2 = 0 := Decidable.byContradiction fun hn => takeSt_bad hn h0
    have h1 : (takeSt 1 bs 0).2.2 = 0 := Decidable.byContradiction fun hn => takeSt_bad hn h2
    rw [h1] at h0 ha hb h2
    rw [h2] at h0 ha hb
    have e1 := take2_some (n := 1) (by omega) (by omega) h1 rfl rfl
    have e2 := take2_some (n := 4) (by omega) (by omega) h2 rfl rfl
    have e3 := take2_some (n := 8) (by omega) (by omega) h0 rfl rfl
    subst ha
    simp only [qidB]
    rw [← hb]
    simp only [Int.cast_ofNat_Int] at e1 e2 e3
    rw [List.append_assoc, List.append_assoc]
    exact e1.trans (by rw [← e3, ← e2])
  · cases h
theorem textSt_bytes {bs r l : List UInt8} (h : textSt bs 0 = some (l, r)) : bs = textB l ++ r ∧ wrongOf l = 0 := by
  obtain ⟨h1, h2, h3, h4⟩ := textSt_some h
  refine ⟨?_, h4⟩
  have hz := (tans_zero h1).1
  have h5 : (tst bs 0).1 = l := by
    rw [h2]
    unfold tans at h1 ⊢
    rw [if_neg (by simpa using hz)] at h1 ⊢
    split at h1
    · rename_i hw
      exact absurd h1 hw
    · rename_i hw
      rw [if_neg hw]
  unfold tst at hz h3 h5
  have h6 : (takeSt 2 bs 0).2.2 = 0 := Decidable.byContradiction fun hn => by
    rw [rawSt, if_pos hn] at hz
    exact hn hz
  rw [h6] at hz h3 h5
  have e1 := take2_some (n := 2) (by omega) (by omega) h6 rfl rfl
  have e2 := tkRaw_some (n := (takeSt 2 bs 0).1) (by rw [tkRaw, if_pos hz])
  rw [← h3] at e2
  rw [h5] at e2
  rw [textB, if_pos h4, show putI 2 (l.length : Int) = putB 2 l.length from putI_of 2 _ (by omega) (by omega), e2.2, List.append_assoc, ← e2.1]
  exact e1
theorem numSt_bytes {bs : List UInt8} (h : (numSt bs).2.2 = 0) : bs = numsB (numSt bs).1 ++ (numSt bs).2.1 := by
  unfold numSt at h ⊢
  simp only at h ⊢
  obtain ⟨k, hk⟩ : ∃ k, k = takeSt 2 bs 0 := ⟨_, rfl⟩
  rw [← hk] at h ⊢
  obtain ⟨d, hd⟩ : ∃ d, d = takeSt 4 k.2.1 k.2.2 := ⟨_, rfl⟩
  rw [← hd] at h ⊢
  obtain ⟨q, hq⟩ : ∃ q, q = qTake d.2.1 d.2.2 := ⟨_, rfl⟩
  rw [← hq] at h ⊢
  obtain ⟨m, hm⟩ : ∃ m, m = takeSt 4 q.2.1 q.2.2 := ⟨_, rfl⟩
  rw [← hm] at h ⊢
  obtain ⟨a, ha⟩ : ∃ a, a = takeSt 4 m.2.1 m.2.2 := ⟨_, rfl⟩
  rw [← ha] at h ⊢
  obtain ⟨c, hc⟩ : ∃ c, c = takeSt 4 a.2.1 a.2.2 := ⟨_, rfl⟩
  rw [← hc] at h ⊢
  have h7 : c.2.2 = 0 := Decidable.byContradiction fun hn => takeSt_bad hn h
  have h6 : a.2.2 = 0 := Decidable.byContradiction fun hn => by rw [hc] at h7; exact takeSt_bad hn h7
  have h5 : m.2.2 = 0 := Decidable.byContradiction fun hn => by rw [ha] at h6; exact takeSt_bad hn h6
  have h4 : q.2.2 = 0 := Decidable.byContradiction fun hn => by rw [hm] at h5; exact takeSt_bad hn h5
  have h3 : d.2.2 = 0 := Decidable.byContradiction fun hn => by
    rw [hq] at h4
    unfold qTake at h4
    simp only at h4
    exact takeSt_bad (takeSt_bad (takeSt_bad hn)) h4
  have h2 : k.2.2 = 0 := Decidable.byContradiction fun hn => by rw [hd] at h3; exact takeSt_bad hn h3
  have e1 := take2_some (n := 2) (bs := bs) (x := k.1) (r := k.2.1) (by omega) (by omega) (by rw [hk] at h2; exact h2) (by rw [hk]; rfl) (by rw [hk]; rfl)
  have e2 := take2_some (n := 4) (bs := k.2.1) (x := d.1) (r := d.2.1) (by omega) (by omega) (by rw [hd, h2] at h3; exact h3) (by rw [hd, h2]; rfl) (by rw [hd, h2]; rfl)
  have e3 := (tkQ_some (bs := d.2.1) (q := q.1) (r := q.2.1) (by rw [hq, h3] at h4; rw [tkQ, if_pos h4, hq, h3])).1
  have e4 := take2_some (n := 4) (bs := q.2.1) (x := m.1) (r := m.2.1) (by omega) (by omega) (by rw [hm, h4] at h5; exact h5) (by rw [hm, h4]; rfl) (by rw [hm, h4]; rfl)
  have e5 := take2_some (n := 4) (bs := m.2.1) (x := a.1) (r := a.2.1) (by omega) (by omega) (by rw [ha, h5] at h6; exact h6) (by rw [ha, h5]; rfl) (by rw [ha, h5]; rfl)
  have e6 := take2_some (n := 4) (bs := a.2.1) (x := c.1) (r := c.2.1) (by omega) (by omega) (by rw [hc, h6] at h7; exact h7) (by rw [hc, h6]; rfl) (by rw [hc, h6]; rfl)
  rw [h7] at h ⊢
  have e7 := take2_some (n := 8) (bs := c.2.1) (by omega) (by omega) h rfl rfl
  simp only [numsB, List.append_assoc]
  refine e1.trans (congrArg _ (e2.trans (congrArg _ (e3.trans (congrArg _ (e4.trans (congrArg _ (e5.trans (congrArg _ (e6.trans (congrArg _ ?_)))))))))))
  exact e7
theorem recOf_bytes {bs : List UInt8} {s : S11} (h : recOf bs = some s) : bs = statB s := by
  have hn := (recOf_some h).1
  unfold recOf at h
  obtain ⟨⟨n, r1⟩, h1, h⟩ := Option.bind_eq_some_iff.1 h
  obtain ⟨⟨u, r2⟩, h2, h⟩ := Option.bind_eq_some_iff.1 h
  obtain ⟨⟨g, r3⟩, h3, h⟩ := Option.bind_eq_some_iff.1 h
  obtain ⟨⟨x, r4⟩, h4, h⟩ := Option.bind_eq_some_iff.1 h
  have z : (numSt bs).2.2 = 0 := Decidable.byContradiction fun hb => by
    have := (textSt_some h1).1
    have := (tans_zero this).1
    unfold tst at this
    have hb2 : (takeSt 2 (numSt bs).2.1 (numSt bs).2.2).2.2 ≠ 0 := takeSt_bad hb
    rw [rawSt, if_pos hb2] at this
    exact hb2 this
  rw [z] at h1
  have b0 := numSt_bytes z
  have b1 := (textSt_bytes h1).1
  have b2 := (textSt_bytes h2).1
  have b3 := (textSt_bytes h3).1
  have b4 := (textSt_bytes h4).1
  simp only at b2 b3 b4 h
  split at h
  · rename_i hr
    injection h with h
    subst hr
    rw [List.append_nil] at b4
    subst h
    simp only [statB, S11.texts, textsB, List.flatMap_cons, List.flatMap_nil, List.append_nil]
    refine b0.trans ?_
    rw [b1, b2, b3, b4]
    rfl
  · cases h
theorem tkRec_some {b : List UInt8} {s : S11} (h : tkRec b = some s) : b = recB s ∧ s.Num ∧ wrongL s.texts = 0 := by
  unfold tkRec at h
  split at h
  · rename_i s' hf
    injection h with h
    subst h
    obtain ⟨_, h1, h2, h3⟩ := firstOf_len hf
    obtain ⟨h4, h5⟩ := recOf_some h1
    refine ⟨?_, h4, h5⟩
    have e0 := recOf_bytes h1
    unfold tst at h2 h3 e0
    have h6 : (takeSt 2 b 0).2.2 = 0 := Decidable.byContradiction fun hn => by
      rw [rawSt, if_pos hn] at h2
      exact hn h2
    rw [h6] at h2 h3 e0
    have e1 := take2_some (n := 2) (by omega) (by omega) h6 rfl rfl
    have e2 := tkRaw_some (n := (takeSt 2 b 0).1) (by rw [tkRaw, if_pos h2])
    rw [← h3, e0, List.append_nil] at e2
    have hl := statB_length h5
    rw [recB, ← hl, e2.2, ← e2.1]
    exact e1
  · cases h
theorem tkMany_some {α : Type} {one : List UInt8 → Option (α × List UInt8)} {B : α → List UInt8} {P : α → Prop} (h1 : ∀ bs x r, one bs = some (x, r) → bs = B x ++ r ∧ P x) :
    ∀ (n : Nat) (bs : List UInt8) (L : List α) (r : List UInt8), tkMany one n bs = some (L, r) → bs = L.flatMap B ++ r ∧ L.length = n ∧ ∀ x ∈ L, P x
  | 0, bs, L, r, h => by
    injection h with h
    injection h with ha hb
    subst ha hb
    simp
  | n + 1, bs, L, r, h => by
    rw [tkMany] at h
    obtain ⟨⟨x, r1⟩, hx, h⟩ := Option.bind_eq_some_iff.1 h
    obtain ⟨⟨L2, r2⟩, hy, h⟩ := Option.map_eq_some_iff.1 h
    injection h with ha hb
    subst ha hb
    obtain ⟨e1, p1⟩ := h1 _ _ _ hx
    obtain ⟨e2, l2, p2⟩ := tkMany_some h1 n _ _ _ hy
    simp only at e2
    refine ⟨?_, by simp [l2], ?_⟩
    · rw [List.flatMap_cons, List.append_assoc, ← e2]
      exact e1
    · intro y hy
      rcases List.mem_cons.1 hy with rfl | hy
      · exact p1
      · exact p2 y hy
/-- What a kind may be. -/
def K.Ok : K → Prop
  | .num n => 1 ≤ n ∧ n ≤ 8
  | _ => True
theorem tkF_some {k : K} {bs r : List UInt8} {f : F} (hk : k.Ok) (h : tkF k bs = some (f, r)) : bs = fB f ++ r ∧ f.kind = k ∧ fErr f = 0 ∧ f.Ok ∧ f.Few := by
  cases k with
  | num n =>
    obtain ⟨⟨x, r1⟩, hx, h⟩ := Option.map_eq_some_iff.1 h
    injection h with ha hb
    subst ha hb
    obtain ⟨e, l⟩ := tkN_some hk.1 hk.2 hx
    exact ⟨e, rfl, rfl, ⟨hk.1, hk.2, l⟩, trivial⟩
  | text =>
    obtain ⟨⟨x, r1⟩, hx, h⟩ := Option.map_eq_some_iff.1 h
    injection h with ha hb
    subst ha hb
    obtain ⟨e, l⟩ := textSt_bytes hx
    exact ⟨e, rfl, l, trivial, by have := wrongOf_short l; show x.length ≤ 1000; omega⟩
  | texts =>
    obtain ⟨⟨n, r1⟩, hx, h⟩ := Option.bind_eq_some_iff.1 h
    split at h
    · cases h
    · rename_i hn
      obtain ⟨⟨L, r2⟩, hy, h⟩ := Option.map_eq_some_iff.1 h
      injection h with ha hb
      subst ha hb
      simp only at hy
      obtain ⟨e, _⟩ := tkN_some (by omega) (by omega) hx
      obtain ⟨e2, l2, p2⟩ := tkMany_some (B := textB) (P := fun l => wrongOf l = 0) (fun bs x r hb => textSt_bytes hb) _ _ _ _ hy
      simp only at e2 l2 hn
      show _ = fB (.texts L) ++ r2 ∧ K.texts = _ ∧ fErr (.texts L) = 0 ∧ True ∧ L.length ≤ 1000 ∧ ∀ l ∈ L, l.length ≤ 1000
      refine ⟨?_, rfl, ?_, trivial, by omega, ?_⟩
      · rw [e, fB, l2, List.append_assoc, textsB, ← e2]
      · rw [fErr, if_neg (by omega)]
        exact wrongL_of p2
      · intro l hl
        have := wrongOf_short (p2 l hl)
        omega
  | qid =>
    obtain ⟨⟨x, r1⟩, hx, h⟩ := Option.map_eq_some_iff.1 h
    injection h with ha hb
    subst ha hb
    obtain ⟨e, l⟩ := tkQ_some hx
    exact ⟨e, rfl, rfl, l, trivial⟩
  | qids =>
    obtain ⟨⟨n, r1⟩, hx, h⟩ := Option.bind_eq_some_iff.1 h
    split at h
    · cases h
    · rename_i hn
      obtain ⟨⟨L, r2⟩, hy, h⟩ := Option.map_eq_some_iff.1 h
      injection h with ha hb
      subst ha hb
      simp only at hy
      obtain ⟨e, _⟩ := tkN_some (by omega) (by omega) hx
      obtain ⟨e2, l2, p2⟩ := tkMany_some (B := qidB) (P := fun q => q.Ok) (fun bs x r hb => tkQ_some hb) _ _ _ _ hy
      simp only at e2 l2 hn
      show _ = fB (.qids L) ++ r2 ∧ K.qids = _ ∧ fErr (.qids L) = 0 ∧ (∀ q ∈ L, q.Ok) ∧ L.length ≤ 1000
      refine ⟨?_, rfl, ?_, p2, ?_⟩
      · rw [e, fB, l2, List.append_assoc, qidsB, ← e2]
      · rw [fErr, if_neg (by omega)]
      · omega
  | data =>
    obtain ⟨⟨n, r1⟩, hx, h⟩ := Option.bind_eq_some_iff.1 h
    split at h
    · cases h
    · rename_i hn
      obtain ⟨⟨b, r2⟩, hy, h⟩ := Option.map_eq_some_iff.1 h
      injection h with ha hb
      subst ha hb
      simp only at hy
      obtain ⟨e, _⟩ := tkN_some (by omega) (by omega) hx
      obtain ⟨e2, l2⟩ := tkRaw_some hy
      simp only at e2 l2 hn
      show _ = fB (.data b) ++ r2 ∧ K.data = _ ∧ fErr (.data b) = 0 ∧ True ∧ b.length ≤ 100000
      refine ⟨?_, rfl, ?_, trivial, ?_⟩
      · rw [e, fB, l2, List.append_assoc, ← e2]
      · rw [fErr, if_neg (by omega)]
      · omega
  | stat =>
    obtain ⟨⟨n, r1⟩, hx, h⟩ := Option.bind_eq_some_iff.1 h
    obtain ⟨⟨b, r2⟩, hy, h⟩ := Option.bind_eq_some_iff.1 h
    obtain ⟨s, hz, h⟩ := Option.map_eq_some_iff.1 h
    injection h with ha hb
    subst ha hb
    obtain ⟨e, _⟩ := tkN_some (by omega) (by omega) hx
    obtain ⟨e2, l2⟩ := tkRaw_some hy
    obtain ⟨e3, p3, p4⟩ := tkRec_some hz
    simp only at e2 l2 e3
    refine ⟨?_, rfl, p4, p3, few_of_wrong p4⟩
    have hl := recB_length p4
    rw [e, fB, List.append_assoc, ← e3, ← e2, ← hl, ← e3, l2]
theorem tkL_some : ∀ (ks : List K) (bs r : List UInt8) (l : List F), (∀ k ∈ ks, k.Ok) → tkL ks bs = some (l, r) → bs = fBL l ++ r ∧ l.map F.kind = ks ∧ fErrL l = 0 ∧ ∀ f ∈ l, f.Ok ∧ f.Few
  | [], bs, r, l, _, h => by
    injection h with h
    injection h with ha hb
    subst ha hb
    exact ⟨by simp [fBL], rfl, rfl, by simp⟩
  | k :: ks, bs, r, l, hk, h => by
    rw [tkL] at h
    obtain ⟨⟨x, r1⟩, hx, h⟩ := Option.bind_eq_some_iff.1 h
    obtain ⟨⟨L2, r2⟩, hy, h⟩ := Option.map_eq_some_iff.1 h
    injection h with ha hb
    subst ha hb
    obtain ⟨e1, k1, z1, o1, f1⟩ := tkF_some (hk k (by simp)) hx
    obtain ⟨e2, k2, z2, p2⟩ := tkL_some ks _ _ _ (fun k h => hk k (by simp [h])) hy
    simp only at e2 k1
    refine ⟨?_, by simp [k1, k2], by rw [fErrL, if_pos z1, z2], ?_⟩
    · rw [show fBL (x :: L2) = fB x ++ fBL L2 from by simp [fBL], List.append_assoc, ← e2]
      exact e1
    · intro f hf
      rcases List.mem_cons.1 hf with rfl | hf
      · exact ⟨o1, f1⟩
      · exact p2 f hf
end Go.Proofs.YtepiifbleoimkaaDoor
