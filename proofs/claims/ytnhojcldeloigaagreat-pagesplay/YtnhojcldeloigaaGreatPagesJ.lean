/-
  Package pages: Changed, by the library's Sorted and Keys.
-/
import Derived.Test.YtnhojcldeloigaaGreatPagesC
import Derived.Test.YtnhojcldeloigaaGreatKeys
namespace Go.Proofs.YtnhojcldeloigaaGreat
open Go.RowKit Go.Lib Go.Maps Go.Sort Go.Shelf
set_option maxRecDepth 100000

/-- The pages that were changed, rising. -/
def keysOf (ch : Nat → Option (List UInt8)) (k : Nat) : List Nat := (List.range k).filter fun p => (ch p).isSome
theorem keysOf_mem {ch : Nat → Option (List UInt8)} {k p : Nat} : p ∈ keysOf ch k ↔ p < k ∧ (ch p).isSome = true := by simp [keysOf]
theorem keysOf_nodup (ch : Nat → Option (List UInt8)) (k : Nat) : (keysOf ch k).Nodup := (List.nodup_range).filter _
theorem keysOf_len (ch : Nat → Option (List UInt8)) (k : Nat) : (keysOf ch k).length ≤ k := by
  have := List.length_filter_le (fun p => (ch p).isSome) (List.range k)
  simpa [keysOf] using this
def ints (l : List Nat) : List Int := l.map Int.ofNat
theorem ints_sorted (ch : Nat → Option (List UInt8)) (k : Nat) : (ints (keysOf ch k)).mergeSort (fun x y => decide (x ≤ y)) = ints (keysOf ch k) := by
  refine List.mergeSort_of_pairwise ?_
  unfold ints keysOf
  rw [List.pairwise_map]
  refine List.Pairwise.filter _ ?_
  refine List.pairwise_lt_range.imp fun {a b} h => ?_
  simp
  omega
theorem keys_perm {w : World} {gm n k : Nat} {D0 : DataW Unit} {ch : Nat → Option (List UInt8)} (hown : w.ownsMap Tryz.prog 3 slR gm n D0) (hh : ∀ i : Int, Maps.has D0 (.int .i64 i) = true ↔ ∃ p : Nat, i = (p : Int) ∧ (ch p).isSome = true) (hlt : ∀ p bs, ch p = some bs → p < k) :
    (ints (keysOf ch k)).Perm (intKeys D0) := by
  refine CollectedI.perm (left := fun _ => false) ⟨?_, fun x => ?_⟩ hown (int_keyed Tryz.underlying3) Tryz.underlying3 (fun _ => rfl)
  · refine List.pairwise_map.2 ((keysOf_nodup ch k).imp fun {a b} h e => h ?_)
    exact Int.ofNat.inj e
  · rw [hh x]
    simp only [ints, List.mem_map, and_true]
    constructor
    · rintro ⟨p, hp, rfl⟩
      exact ⟨p, rfl, (keysOf_mem.1 hp).2⟩
    · rintro ⟨p, rfl, hp⟩
      obtain ⟨bs, hbs⟩ := Option.isSome_iff_exists.1 hp
      exact ⟨p, keysOf_mem.2 ⟨hlt p bs hbs, hp⟩, rfl⟩
theorem size_keys {w : World} {gm n : Nat} {D0 : DataW Unit} (hown : w.ownsMap Tryz.prog 3 slR gm n D0) : Maps.size D0 = (intKeys D0).length := by
  obtain ⟨es, rfl⟩ := hown.isMap
  simp [Maps.size, intKeys]

/-- slices.Sort's two contracts at this program. -/
theorem Tryz.sortsI (m : Nat) : AnyZI.SortsIn Tryz.prog Tryz.sortedInts_ren Fence.wide m :=
  ⟨fun blk off cap ss W hH hblk hsz => callsIn_wide.2 (AnyM.slices_Sort_int Tryz.sortInts blk off cap ss W hH hblk hsz),
   fun p cap W => callsIn_wide.2 (AnyM.slices_Sort_int_none Tryz.sortInts p cap W)⟩

/-- What Changed answers. -/
def ChangedAns (w : World) (l : List Nat) (e : Ending) (w' : World) : Prop := ∃ v, e = .returned v ∧ w'.ownsRow w.heap.size 3 1 v l.length (l.map fun p : Nat => .int .i64 (p : Int)) ∧ Below w.heap.size w w'
set_option maxHeartbeats 1000000 in
theorem bookchanged_any (G : Nat → Prop) (gb gd : Nat) (g : BG) (ch : Nat → Option (List UInt8)) (w : World) (h : Bk w G gb gd g ch) (hk : g.k ≤ 1024) :
    Calls Tryz.prog 27 #[.pointer (some ⟨gb, 0, none⟩)] w (ChangedAns w (keysOf ch g.k)) := by
  obtain ⟨gm, h⟩ := h
  have c5 := h.cells.2.2.2.2.2
  obtain ⟨⟨n, D0, hown, hh, _⟩, hlt⟩ := h.ch
  have hperm := keys_perm hown hh hlt
  have hsize : Maps.size D0 ≤ 1024 := by
    rw [size_keys hown, ← hperm.length_eq]
    simp only [ints, List.length_map]
    exact Nat.le_trans (keysOf_len ch g.k) hk
  have hsrt : (intKeys D0).mergeSort (fun x y => decide (x ≤ y)) = ints (keysOf ch g.k) := by
    rw [← ints_sorted ch g.k]
    exact (mergeSort_of_perm_i hperm).symm
  have hbl := hown.lt
  refine (callsIn_wide (n := 6)).1 ?_
  have hseq : SeqGives Fence.wide 2 Tryz.prog 82 #[.pointer (some ⟨w.heap.size, 0, none⟩)] encZ (fun ss => ss.Perm (intKeys D0)) (Maps.size D0) (w.alloc (.cells #[.map (some gm)] 65)) :=
    AnyZI.keys_gives (ρ := Tryz.mapKeys_ren) { Tryz.mapKeys with } Fence.wide _ trivial rfl (by omega) w.heap.size gm n D0 _ (by simp) (by simp) (by
      obtain ⟨es, clock, hb, Ft, hs, hD⟩ := hown
      exact ⟨es, clock, (Below.heap_alloc _ _ gm hbl).trans hb, Ft, hs, hD⟩)
  have cK : ∀ mb W, CallsIn Fence.wide 5 Tryz.prog 58 #[.map mb] W fun e w' => e = .returned (.func (.func 82) #[] #[.pointer (some ⟨W.heap.size, 0, none⟩)]) ∧ w' = W.alloc (.cells #[.map mb] 65) := fun mb W => AnyZI.keys_in Tryz.mapKeys Fence.wide 5 trivial rfl mb W
  have cS := AnyZI.sorted_in Tryz.sortedInts Fence.wide 5 trivial trivial trivial trivial rfl (by omega) (Tryz.sortsI _) (enters_of Tryz.func81 (by kernel_rfl) rfl) 82 #[.pointer (some ⟨w.heap.size, 0, none⟩)] trivial (enters_of Tryz.func82 (by kernel_rfl) rfl) _ _ (show Maps.size D0 ≤ maxLen by simp only [maxLen]; omega) (by omega) _ hseq
  change CallsIn _ _ Tryz.prog 57 _ _ _ at cS
  have HCS := Lib.hid cS
  have HSR := Lib.hid hsrt
  have hfK : Fence.wide.fn 58 := trivial
  have hfS : Fence.wide.fn 57 := trivial
  clear cS hseq hperm hsize hsrt hown hh hlt h hk
  refine callsIn_of_wp Tryz.func27 rfl trivial ?_ rfl
  simp only [Tryz.ntmps27, List.size_toArray, List.length_cons, List.length_nil, Nat.reduceAdd, Nat.reduceSub, Array.replicate_succ, Array.replicate_zero, List.push_toArray, List.append_toArray, List.nil_append, List.cons_append]
  gi_wp2_with (first
    | (gi_at_call 58; refine (cK _ _).mono ?_; rintro e w' ⟨rfl, rfl⟩)
    | (gi_at_call 57; refine HCS.out.mono ?_; rintro e w' ⟨v, ss, rfl, hS, hrow, hnil, hb⟩))
  go_ret
  have e1 : ss.mergeSort (fun x y => decide (x ≤ y)) = ints (keysOf ch g.k) := (mergeSort_of_perm_i hS).trans HSR.out
  have e2 : ss.length = (keysOf ch g.k).length := by
    have := congrArg List.length e1
    simpa [ints] using this
  rw [e1, e2] at hrow
  have e3 : (ints (keysOf ch g.k)).map encZ = (keysOf ch g.k).map fun p : Nat => Value.int .i64 (p : Int) := by simp [ints]
  rw [e3] at hrow
  exact ⟨v, rfl, owns_base hrow (by simp), ((Below.refl _ w).alloc (Nat.le_refl _) _).trans (hb.mono (by simp))⟩
end Go.Proofs.YtnhojcldeloigaaGreat
