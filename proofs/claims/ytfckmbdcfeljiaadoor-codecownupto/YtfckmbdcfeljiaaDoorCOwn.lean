import Derived.Test.YtfckmbdcfeljiaaDoorKCallB
import Derived.Test.YtfckmbdcfeljiaaDoorKNoC
import Derived.Test.YtfckmbdcfeljiaaDoorLive
import Derived.Test.YtfckmbdcfeljiaaDoorRefSeal
import Derived.Test.YtfckmbdcfeljiaaDoorRefR
namespace Go.Proofs.YtfckmbdcfeljiaaDoor
set_option linter.unusedVariables false
open Go.RowKit Go.Maps

def kb : K.KT := ⟨fun _ => 5, fun _ => 1, fun _ => 22⟩
theorem kb_ok : kb.Ok := ⟨fun _ => (by show (41 : TypeId) ≠ 5; decide), fun _ => (by show (41 : TypeId) ≠ 22; decide), fun _ _ => (by show (5 : TypeId) ≠ 22; decide)⟩
theorem K.KI.keptAll {T : K.KT} {B : Nat} {w w' : World} {q : Nat} {V : Nat → Value} {E : Nat → List K.LE} (h : K.KI T B w q V E) (hq : w'.heap[q]? = w.heap[q]?) (hV : ∀ i k, (V i).ownBlock = some k → w'.heap[k]? = w.heap[k]?) (hE : ∀ i, ∀ e ∈ E i, w'.heap[e.g]? = w.heap[e.g]?) (hs : w.heap.size ≤ w'.heap.size) : K.KI T B w' q V E :=
  ⟨hq.trans h.hq, fun i => (h.row i).kept (hV i), h.apart, fun i => by
    obtain ⟨X, hX⟩ := h.own i
    refine ⟨X, fun j hj => K.row_keptB (hX j hj) fun k hk => ?_⟩
    simp [K.LE.v, Value.ownBlock] at hk
    subst hk
    exact hE i _ (List.getElem_mem hj), h.nd, h.loq, h.loV, h.loE, Nat.le_trans h.size hs⟩
/-- The book and the writer, call by call. -/
structure CR (B : Nat) (w0 : World) (m : Nat) (wr : World) (V : Nat → Value) (E : Nat → List K.LE) (p q : Nat) (v : Value) (xs : List Int) : Prop where
  k : K.KI kb B wr B V E
  b : Below B w0 wr
  no : ∀ i, i ≠ 0 → E i = []
  l : (E 0).length ≤ m
  n : ∀ e ∈ E 0, e.n ≤ 100000000
  w : WInv wr p q v xs 0
  wq : B ≤ q
  wv : ∀ k, v.ownBlock = some k → B ≤ k
  dis : ∀ e ∈ E 0, v.ownBlock ≠ some e.g
section
variable {B m : Nat} {w0 wr w' : World} {V : Nat → Value} {E : Nat → List K.LE} {p q : Nat} {v v' : Value} {xs xs' : List Int}
theorem CR.later (h : CR B w0 m wr V E p q v xs) (hb : Below wr.heap.size wr w') : CR B w0 m w' V E p q v xs :=
  ⟨h.k.later hb, h.b.trans (hb.mono h.k.size), h.no, h.l, h.n, ⟨(hb.block p (lt_of_block h.w.hp)).trans h.w.hp, (hb.block q (lt_of_block h.w.hq)).trans h.w.hq, h.w.own.later hb⟩, h.wq, h.wv, h.dis⟩
theorem CR.text (h : CR B w0 m wr V E p q v xs) (hw : WInv w' p q v' xs' 0) (hg : WGrew wr w' q v v') : CR B w0 m w' V E p q v' xs' := by
  have ok := kb_ok
  have hk : K.KI kb B w' B V E := by
    refine h.k.keptAll ?_ (fun i k hk => ?_) (fun i e he => ?_) hg.size
    · refine hg.block B (lt_of_block h.k.hq) (fun e => ?_) (own_ne h.w.own h.k.hq (by decide))
      have := h.k.hq
      rw [e, h.w.hq] at this
      simp at this
    · have hr := h.k.row i
      rcases hr.2 with ⟨e, _⟩ | ⟨g, cap, cur, e, _, hb, _⟩
      · rw [e] at hk; simp [Value.ownBlock] at hk
      · rw [e] at hk
        simp [Value.ownBlock] at hk
        subst hk
        refine hg.block g (lt_of_block hb) (fun e2 => ?_) (own_ne h.w.own hb (by show (22 : TypeId) ≠ 5; decide))
        rw [e2, h.w.hq] at hb
        simp [kb] at hb
    · by_cases e0 : i = 0
      · subst e0
        have hlt := h.k.lt 0 e he
        refine hg.block e.g hlt (fun e2 => ?_) (fun e2 => h.dis e he e2.symm)
        obtain ⟨j, hj, rfl⟩ := List.getElem_of_mem he
        obtain ⟨X, hX⟩ := h.k.own 0
        obtain ⟨cur, h1, _⟩ := K.row_block (hX j hj)
        rw [e2, h.w.hq] at h1
        simp [kb] at h1
      · rw [h.no i e0] at he; cases he
  refine ⟨hk, h.b.trans ⟨hg.os, hg.tape, hg.output, hg.size, fun k hk => hg.block k (Nat.lt_of_lt_of_le hk h.k.size) (fun e => by have := h.wq; omega) (fun e => by have := h.wv k e.symm; omega)⟩, h.no, h.l, h.n, hw, h.wq, fun k hk => ?_, fun e he e2 => ?_⟩
  · rcases hg.moved with r | ⟨z, r, hz⟩
    · exact h.wv k (r ▸ hk)
    · rw [hk] at r; have := Option.some.inj r; have := h.k.size; omega
  · rcases hg.moved with r | ⟨z, r, hz⟩
    · exact h.dis e he (r ▸ e2)
    · rw [e2] at r; have := Option.some.inj r; have := h.k.lt 0 e he; omega
theorem cr_add (h : CR B w0 m wr V E p q v xs) (hm : m ≤ 900) {a : Option Addr} {n c : Nat} {zs : List Int} (ho : Own wr (.slice a n c) zs) (hf : ∀ k, (Value.slice a n c).ownBlock = some k → B ≤ k ∧ (∀ x ∈ E 0, x.g ≠ k) ∧ v.ownBlock ≠ some k) (hn : zs.length ≤ 100000000) :
    Calls Tryd.prog 11 #[.pointer (some ⟨B, 0, none⟩), .slice a n c] wr fun e w' => e = .returned (.tuple #[]) ∧ ∃ V' E', CR B w0 (m + 1) w' V' E' p q v xs ∧ (∀ x ∈ E' 0, x ∈ E 0 ∨ (Value.slice a n c).ownBlock = some x.g) ∧ (∀ u ys, Own wr u ys → Own w' u ys) := by
  have hN := (own_len ho).1
  subst hN
  refine (K.book_bytes kb kb_ok B B V E wr a zs.length c (vals zs) h.k ⟨rfl, rfl, rfl⟩ ho.2 (fun k hk => ⟨(hf k hk).1, (hf k hk).2.1⟩) (by have := h.l; omega)).mono ?_
  rintro e w' ⟨rfl, V', E', hK, hE, hE0, hb, hoth⟩
  have hown : ∀ u ys, Own wr u ys → Own w' u ys := fun u ys hu => hu.kept fun k hk => by
    rcases hu.2.2 with ⟨e, _⟩ | ⟨g, cap, cur, e, _, hb2, _⟩
    · rw [e] at hk; simp [Value.ownBlock] at hk
    · rw [e] at hk
      simp [Value.ownBlock] at hk
      subst hk
      exact hoth g cur 5 hb2 (by decide) (by decide)
  have hsub : ∀ x ∈ E' 0, x ∈ E 0 ∨ (Value.slice a zs.length c).ownBlock = some x.g := by
    rcases hE0 with r | ⟨g, rfl, r⟩
    · rw [r]; exact fun x hx => .inl hx
    · rw [r]
      intro x hx
      rcases List.mem_append.1 hx with y | y
      · exact .inl y
      · simp at y; subst y; exact .inr rfl
  refine ⟨rfl, V', E', ⟨hK, h.b.trans hb, fun i hi => by rw [hE i hi]; exact h.no i hi, ?_, ?_, ⟨(hoth p _ _ h.w.hp (by decide) (by decide)).trans h.w.hp, (hoth q _ _ h.w.hq (by decide) (by decide)).trans h.w.hq, hown _ _ h.w.own⟩, h.wq, h.wv, fun x hx e => ?_⟩, hsub, hown⟩
  · rcases hE0 with r | ⟨g, _, r⟩
    · rw [r]; have := h.l; omega
    · rw [r]; have := h.l; simp; omega
  · rcases hE0 with r | ⟨g, _, r⟩
    · rw [r]; exact h.n
    · rw [r]
      intro x hx
      rcases List.mem_append.1 hx with y | y
      · exact h.n x y
      · simp at y; subst y; exact hn
  · rcases hsub x hx with y | y
    · exact h.dis x y e
    · exact (hf _ y).2.2 e
theorem cr_apart (h : CR B w0 m wr V E p q v xs) (hm : m ≤ 1000) :
    Calls Tryd.prog 14 #[.pointer (some ⟨B, 0, none⟩)] wr fun e w' => e = .returned (.bool true) ∧ K.KFr (E 0) wr w' :=
  K.book_apartB kb kb_ok B B V E wr h.k ⟨rfl, rfl, rfl⟩ h.no (by have := h.l; omega) h.n
theorem cr_new (w : World) {p q : Nat} {v : Value} {xs : List Int} (hb : Below (w.alloc (.cells #[K.kNil, K.kNil, K.kNil, K.kNil, K.kNil, K.kNil, K.kNil, K.kNil, K.kNil, K.kNil, K.kNil, K.kNil, K.kNil, K.kNil, K.kNil, K.kNil] 41)).heap.size (w.alloc (.cells #[K.kNil, K.kNil, K.kNil, K.kNil, K.kNil, K.kNil, K.kNil, K.kNil, K.kNil, K.kNil, K.kNil, K.kNil, K.kNil, K.kNil, K.kNil, K.kNil] 41)) w') (hw : WInv w' p q v xs 0) (hq : w.heap.size ≤ q) (hv : ∀ k, v.ownBlock = some k → w.heap.size ≤ k) : CR w.heap.size w 0 w' (fun _ => K.kNil) (fun _ => []) p q v xs :=
  ⟨(K.knew kb w).later hb, (below_alloc w _).trans (hb.mono (below_alloc w _).size), fun _ _ => rfl, Nat.le_refl _, fun e he => (by cases he), hw, hq, hv, fun e he => (by cases he)⟩
end
theorem RInv.kept2 {w w' : World} {r : Nat} {ao : Option Addr} {N cap : Nat} {xs : List Int} {pos : Nat} {err : Int} (h : RInv w r ao N cap xs pos err) (hr : w'.heap[r]? = w.heap[r]?) (hd : ∀ g, ao = some ⟨g, 0, none⟩ → w'.heap[g]? = w.heap[g]?) : RInv w' r ao N cap xs pos err := by
  refine ⟨hr.trans h.hr, h.len, ⟨h.row.1, fun hne => ?_⟩, h.nil, h.cap, h.pos, h.lim, h.shape⟩
  obtain ⟨b, off, e, hc⟩ := h.row.2 hne
  refine ⟨b, off, e, fun i hi => ?_⟩
  rcases h.shape with e2 | ⟨g, e2⟩
  · rw [e2] at e; cases e
  · rw [e2] at e
    simp at e
    obtain ⟨rfl, rfl⟩ := e
    exact (World.cell?_of_block (a := ⟨g, 0 + i, none⟩) (hd g e2)).trans (hc i hi)
theorem newreader_own (ao : Option Addr) (n cap : Nat) (xs : List Int) (w : World) (hn : n = xs.length) (hl : xs.length ≤ 140737488355328) (hr : RowAt w ao xs) (hc : ao = none → cap = 0) : Calls Tryd.prog 13 #[.slice ao n cap] w fun e w' => ∃ r ao N c, e = .returned (.pointer (some ⟨r, 0, none⟩)) ∧ RInv w' r ao N c xs 0 0 ∧ w.heap.size ≤ r ∧ (∀ g, ao = some ⟨g, 0, none⟩ → w.heap.size ≤ g ∧ g < w'.heap.size) ∧ Below w.heap.size w w' := by
  subst hn
  match ao with
  | none =>
    obtain rfl := hc rfl
    have hn : xs = [] := by
      by_cases hn : xs = []
      · exact hn
      · obtain ⟨b, off, he, _⟩ := hr.2 hn; cases he
    subst hn
    exact (newreader_none w).mono fun e w' ⟨h1, h2, h3⟩ => ⟨_, _, _, _, h1, h2, Nat.le_refl _, fun g h => (by cases h), h3⟩
  | some ad =>
    go_enter Tryd.func13, Tryd.ntmps13
    go_wp2_with (go_at_call 27; refine (clone_at ad xs.length cap xs w rfl hl hr).mono ?_; rintro e w1 ⟨g, N1, c1, rfl, ho, hg, hb⟩)
    go_ret
    have hz := hb.size
    exact ⟨w1.heap.size, some ⟨g, 0, none⟩, N1, c1, rfl, ⟨heap_alloc_new _ _, (own_len ho).1, (own_len ho).2.1.later (below_alloc _ _), no_nil, own_cap ho, Nat.zero_le _, hl, .inr ⟨g, rfl⟩⟩, hz, fun g' e => (by simp at e; subst e; exact ⟨hg, Nat.lt_of_lt_of_le (ho.lt g rfl) (below_alloc w1 _).size⟩), hb.trans ((below_alloc w1 _).mono hz)⟩
end Go.Proofs.YtfckmbdcfeljiaaDoor
