import Derived.Test.YteciabdjkaackaaGreatPTGa
namespace Go.Proofs.YteciabdjkaackaaGreat
set_option linter.unusedVariables false
open Go.RowKit
abbrev zTrM : Obj := .cells #[.int .i64 0, .int .i64 0, .string ⟨#[]⟩, .slice none 0 0] 26
structure Lw (q : Nat) (VA VB : Value) (N : Nat) (w w' : World) : Prop where
 os : w'.os = w.os
 tape : w'.tape = w.tape
 output : w'.output = w.output
 size : w.heap.size <= w'.heap.size
 blk : ∀ k, k < N -> k ≠ q -> VA.ownBlock ≠ some k -> VB.ownBlock ≠ some k -> w'.heap[k]? = w.heap[k]?
theorem Lw.ofBelow {q : Nat} {VA VB : Value} {N : Nat} {w w' : World} (h : Below N w w') : Lw q VA VB N w w' := ⟨h.os, h.tape, h.output, h.size, fun k hk _ _ _ => h.block k hk⟩
theorem Lw.trans {q : Nat} {VA VB : Value} {N : Nat} {a b c : World} (h : Lw q VA VB N a b) (k : Lw q VA VB N b c) : Lw q VA VB N a c := ⟨k.os.trans h.os, k.tape.trans h.tape, k.output.trans h.output, Nat.le_trans h.size k.size, fun z hz hq ha hb => (k.blk z hz hq ha hb).trans (h.blk z hz hq ha hb)⟩
structure Gt2 (q N : Nat) (VA VB : Value) (V : Nat -> Value) (w0 : World) (b5 : Nat) (T1 : TV) (w : World) : Prop where
 lv : Lw q VA VB N w0 w
 hq : w.heap[q]? = some (.cells (hArr V) 38 (0, 0))
 qn : q < N
 rz : w.heap[N + 1]? = some zTree
 bx : w.heap[b5]? = some (tBox T1)
 b5 : N + 1 < b5
 ow : OwT (N + 2) w T1
theorem Gt2.later {q N : Nat} {VA VB : Value} {V : Nat -> Value} {w0 : World} {b5 : Nat} {T1 : TV} {w w' : World} (h : Gt2 q N VA VB V w0 b5 T1 w) (hb : Below w.heap.size w w') : Gt2 q N VA VB V w0 b5 T1 w' := by
 have h1 := lt_of_block h.rz
 exact ⟨h.lv.trans (Lw.ofBelow (hb.mono (by omega))), (hb.block _ (lt_of_block h.hq)).trans h.hq, h.qn, (hb.block _ (lt_of_block h.rz)).trans h.rz, (hb.block _ (lt_of_block h.bx)).trans h.bx, h.b5, h.ow.later hb⟩
theorem Gt2.grew {q N : Nat} {VA VB : Value} {V : Nat -> Value} {w0 : World} {b5 : Nat} {T1 : TV} {w w' : World} {v v' : Value} (h : Gt2 q N VA VB V w0 b5 T1 w) (hg : Grew w w' v v') (hv : ∀ j, v.ownBlock = some j -> j < N /\ j ≠ q /\ (VA.ownBlock = some j ∨ VB.ownBlock = some j)) : Gt2 q N VA VB V w0 b5 T1 w' := by
 have h1 := lt_of_block h.rz
 have e : ∀ k, k < w.heap.size -> v.ownBlock ≠ some k -> w'.heap[k]? = w.heap[k]? := fun k hk hn => hg.grown.block k hk fun e => hn e.symm
 have e2 : ∀ k, k < w.heap.size -> N <= k -> w'.heap[k]? = w.heap[k]? := fun k hk hn => e k hk fun e => by have := (hv k e).1; omega
 refine ⟨h.lv.trans ⟨hg.grown.os, hg.grown.tape, hg.grown.output, hg.grown.size, fun k hk _ ha hb => e k (by omega) fun e => ?_⟩, (e _ (lt_of_block h.hq) fun e => (hv _ e).2.1 rfl).trans h.hq, h.qn, (e2 _ h1 (by omega)).trans h.rz, (e2 _ (lt_of_block h.bx) (by have := h.b5; omega)).trans h.bx, h.b5, h.ow.kept (fun a ha => e2 _ (kids_lt h.ow.ta ha) (by have := (h.ow.ty a ha).1; omega)) hg.grown.size⟩
 rcases (hv k e).2.2 with q | q
 ·exact ha q
 ·exact hb q
theorem Gt2.cell {q N : Nat} {VA VB : Value} {V : Nat -> Value} {w0 : World} {b5 : Nat} {T1 : TV} {w : World} (h : Gt2 q N VA VB V w0 b5 T1 w) {i : Nat} (hi : i < 22) : w.cell? ⟨q, i, none⟩ = some (V i) /\ w.frozen? ⟨q, i, none⟩ = false :=
 ⟨by rw [cellq_any h.hq]; exact hArr_get V hi, by simp [World.frozen?, h.hq]⟩
theorem Gt2.set {q N : Nat} {VA VB : Value} {V : Nat -> Value} {w0 : World} {b5 : Nat} {T1 : TV} {w : World} (h : Gt2 q N VA VB V w0 b5 T1 w) (i : Nat) (v : Value) : Gt2 q N VA VB (updV V i v) w0 b5 T1 (w.setCell ⟨q, i, none⟩ v) := by
 have ne : ∀ k, k ≠ q -> (w.setCell ⟨q, i, none⟩ v).heap[k]? = w.heap[k]? := fun k hk => Below.heap_setCell _ _ _ _ hk
 have hs : w.heap.size <= (w.setCell ⟨q, i, none⟩ v).heap.size := by simp [World.setCell]
 have hb := h.b5
 have hqn := h.qn
 exact ⟨h.lv.trans ⟨rfl, rfl, rfl, hs, fun k hk hkq _ _ => ne k hkq⟩, by rw [heap_set h.hq, hArr_set], h.qn, (ne _ (by omega)).trans h.rz, (ne _ (by omega)).trans h.bx, h.b5, h.ow.kept (fun a ha => ne _ (by have := (h.ow.ty a ha).1; omega)) hs⟩
theorem Gt2.tree {q N : Nat} {VA VB : Value} {V : Nat -> Value} {w0 : World} {b5 : Nat} {T1 : TV} {w : World} {g o : Nat} (h : Gt2 q N VA VB V w0 b5 T1 w) (T : TV) (hg : ∀ k, k = b5 ∨ k = N + 1 ∨ k ∈ (adsL (kidsA T1)).map (·.1) -> k ≠ g) (hqg : q ≠ g) (hN : g < N -> VA.ownBlock = some g ∨ VB.ownBlock = some g) : Gt2 q N VA VB V w0 b5 T1 (set4 w g o T) := by
 have hs : w.heap.size <= (set4 w g o T).heap.size := by rw [set4_size]; exact Nat.le_refl _
 refine ⟨h.lv.trans ⟨rfl, rfl, rfl, hs, fun k hk _ ha hb => set4_other _ _ _ _ _ fun eg => ?_⟩, (set4_other _ _ _ _ _ hqg).trans h.hq, h.qn, (set4_other _ _ _ _ _ (hg _ (.inr (.inl rfl)))).trans h.rz, (set4_other _ _ _ _ _ (hg _ (.inl rfl))).trans h.bx, h.b5, h.ow.kept (fun a ha => set4_other _ _ _ _ _ (hg _ (.inr (.inr (List.mem_map.2 ⟨a, ha, rfl⟩))))) hs⟩
 subst eg
 rcases hN hk with q | q
 ·exact ha q
 ·exact hb q
theorem Gt2.put {q N : Nat} {VA VB : Value} {V : Nat -> Value} {w0 : World} {b5 : Nat} {T1 : TV} {w : World} {g o : Nat} (h : Gt2 q N VA VB V w0 b5 T1 w) (T : TV) (i : Nat) (v : Value) (hg : ∀ k, k = b5 ∨ k = N + 1 ∨ k ∈ (adsL (kidsA T1)).map (·.1) -> k ≠ g) (hqg : q ≠ g) (hN : g < N -> VA.ownBlock = some g ∨ VB.ownBlock = some g) : Gt2 q N VA VB (updV V i v) w0 b5 T1 ((set4 w g o T).setCell ⟨q, i, none⟩ v) := (h.tree T hg hqg hN).set i v
theorem ro_put {w : World} {g n c q i : Nat} {L : List TV} {x : TV} (T : TV) (v : Value) (hqg : q ≠ g) (hr : TRo w (.slice (some ⟨g, 0, none⟩) n c) (L ++ [x])) : TRo ((set4 w g (L.length * 4) T).setCell ⟨q, i, none⟩ v) (.slice (some ⟨g, 0, none⟩) n c) (L ++ [T]) :=
 (tro_lastM T hr).kept fun j hj => by
  simp [Value.ownBlock] at hj
  subst hj
  exact Below.heap_setCell _ _ _ _ (Ne.symm hqg)
theorem ro_put_other {w : World} {g o q i : Nat} {v : Value} {L : List TV} (T : TV) (u : Value) (hg : v.ownBlock ≠ some g) (hq : v.ownBlock ≠ some q) (hr : TRo w v L) : TRo ((set4 w g o T).setCell ⟨q, i, none⟩ u) v L :=
 hr.kept fun j hj => (Below.heap_setCell _ _ _ _ fun e => hq (by rw [hj, e])).trans (set4_other _ _ _ _ _ fun e => hg (by rw [hj, e]))
theorem own_neM {g1 g n c : Nat} (h : g1 ≠ g) : (Value.slice (some ⟨g1, 0, none⟩) n c).ownBlock ≠ some g := fun e => h (Option.some.inj e)
theorem two_puts {w : World} {g o q i : Nat} (T : TV) (v : Value) : (∀ k, k ≠ g -> k ≠ q -> ((set4 w g o T).setCell ⟨q, i, none⟩ v).heap[k]? = w.heap[k]?) /\ w.heap.size <= ((set4 w g o T).setCell ⟨q, i, none⟩ v).heap.size :=
 ⟨fun k h1 h2 => (Below.heap_setCell _ _ _ _ h2).trans (set4_other _ _ _ _ _ h1), by simp [World.setCell]⟩
theorem tat_puts {w : World} {g o q i : Nat} (T : TV) (v : Value) {X : TV} (h : TAt w X) (hk : ∀ a ∈ adsL (kidsA X), a.1 ≠ g /\ a.1 ≠ q) : TAt ((set4 w g o T).setCell ⟨q, i, none⟩ v) X :=
 keep_at X 0 0 h fun a ha => ⟨Nat.lt_of_lt_of_le (kids_lt h ha) (two_puts T v).2, fun j _ => World.cell?_of_block ((two_puts T v).1 a.1 (hk a ha).1 (hk a ha).2)⟩
theorem grew_at {w w' : World} {v : Value} {g n c : Nat} (hg : Grew w w' v (.slice (some ⟨g, 0, none⟩) n c)) : v.ownBlock = some g ∨ w.heap.size <= g := by
 rcases hg.moved with e | ⟨k, e, hk⟩
 ·exact .inl (by rw [<- e]; rfl)
 ·have e : some g = some k := e
  cases e
  exact .inr hk
structure Gt3 (q N : Nat) (VA VB : Value) (V : Nat -> Value) (w0 : World) (b5 : Nat) (T1 : TV) (LA LB : List TV) (w : World) : Prop where
 ex : ∃ g c, Gt2 q N VA VB (updV V 20 (.slice (some ⟨g, 0, none⟩) (LA.length + 1) c)) w0 b5 T1 w /\ TRo w (.slice (some ⟨g, 0, none⟩) (LA.length + 1) c) (LA ++ [T1]) /\ TRo w VB LB /\ (VA.ownBlock = some g ∨ N <= g) /\ VB.ownBlock ≠ some g /\ g ≠ N + 1 /\ g ≠ q /\ ∀ a ∈ adsL (kidsA T1), a.1 ≠ g
structure Gt4 (q N : Nat) (VA VB : Value) (V : Nat -> Value) (w0 : World) (b5 : Nat) (T1 : TV) (LA LB : List TV) (vA : Value) (w : World) : Prop where
 ex : ∃ T2 g c, Gt2 q N VA VB (updV V 21 (.slice (some ⟨g, 0, none⟩) (LB.length + 1) c)) w0 b5 T1 w /\ TRo w vA (LA ++ [T1]) /\ TRo w (.slice (some ⟨g, 0, none⟩) (LB.length + 1) c) (LB ++ [T2]) /\ samV T1 T2 /\ TAt w T2 /\ (∀ a ∈ adsL (kidsA T2), N + 1 < a.1) /\ (VB.ownBlock = some g ∨ N <= g) /\ vA.ownBlock ≠ some g /\ g ≠ N + 1 /\ g ≠ q /\ (∀ a ∈ adsL (kidsA T1), a.1 ≠ g) /\ ∀ a ∈ adsL (kidsA T2), a.1 ≠ g /\ vA.ownBlock ≠ some a.1
set_option linter.unusedSimpArgs false in
set_option maxRecDepth 100000 in
set_option maxHeartbeats 8000000 in
theorem tree_W2 (q : Nat) (V : Nat -> Value) (w : World) (hq : w.heap[q]? = some (.cells (hArr V) 38 (0, 0))) {aa ab : Option Addr} {ca cb : Nat} {LA LB : List TV} (h20 : V 20 = .slice aa LA.length ca) (h21 : V 21 = .slice ab LB.length cb) (hA : TRo w (.slice aa LA.length ca) LA) (hB : TRo w (.slice ab LB.length cb) LB) (hlA : LA.length <= 1000000) (hlB : LB.length <= 1000000)
  (dj : ∀ j, (Value.slice aa LA.length ca).ownBlock = some j -> (Value.slice ab LB.length cb).ownBlock ≠ some j) (qa : (Value.slice aa LA.length ca).ownBlock ≠ some q) (qb : (Value.slice ab LB.length cb).ownBlock ≠ some q) (t : TV) (ht : TAt w t) (hsz : szT t <= 100000000) :
  Calls Tryz.prog 5 #[.pointer (some ⟨q, 0, none⟩), t.val] w fun e w' => ∃ T1 T2 g1 g2 c1 c2, e = .returned T1.val /\ Lw q (.slice aa LA.length ca) (.slice ab LB.length cb) w.heap.size w w' /\ w'.heap[q]? = some (.cells (hArr (updV (updV V 20 (.slice (some ⟨g1, 0, none⟩) (LA.length + 1) c1)) 21 (.slice (some ⟨g2, 0, none⟩) (LB.length + 1) c2))) 38 (0, 0)) /\ TRo w' (.slice (some ⟨g1, 0, none⟩) (LA.length + 1) c1) (LA ++ [T1]) /\ TRo w' (.slice (some ⟨g2, 0, none⟩) (LB.length + 1) c2) (LB ++ [T2]) /\ TAt w' T1 /\ TAt w' T2 /\ samV t T1 /\ samV T1 T2 /\ ((Value.slice aa LA.length ca).ownBlock = some g1 ∨ w.heap.size <= g1) /\ ((Value.slice ab LB.length cb).ownBlock = some g2 ∨ w.heap.size <= g2) /\ g1 ≠ g2 /\ g1 ≠ q /\ g2 ≠ q /\ (∀ a ∈ adsL (kidsA T1), w.heap.size <= a.1 /\ a.1 ≠ g1 /\ a.1 ≠ g2) /\ (∀ a ∈ adsL (kidsA T2), w.heap.size <= a.1 /\ a.1 ≠ g1 /\ a.1 ≠ g2) := by
 have hqn := lt_of_block hq
 obtain ⟨m, hm⟩ : ∃ m, LA.length = m := ⟨_, rfl⟩
 obtain ⟨mb, hmb⟩ : ∃ mb, LB.length = mb := ⟨_, rfl⟩
 have HM : Hid (LA.length = m /\ LB.length = mb /\ m <= 1000000 /\ mb <= 1000000) := ⟨hm, hmb, by omega, by omega⟩
 rw [hm] at h20 hA dj qa ⊢
 rw [hmb] at h21 hB dj qb ⊢
 obtain ⟨w1, hw1⟩ : ∃ w1, (w.alloc (tBox t)).alloc zTree = w1 := ⟨_, rfl⟩
 obtain ⟨h1, h2, h3⟩ := two_allocT w (tBox t) zTree
 rw [hw1] at h1 h2 h3
 have X1 : Hid (TBx w1 w.heap.size 0 t /\ Below w.heap.size w w1) := ⟨tb_tbxC h2, h1⟩
 have LT : Hid ((∀ j, (Value.slice aa m ca).ownBlock = some j -> j < w.heap.size) /\ (∀ j, (Value.slice ab mb cb).ownBlock = some j -> j < w.heap.size) /\ (∀ j, (Value.slice aa m ca).ownBlock = some j -> (Value.slice ab mb cb).ownBlock ≠ some j) /\ (Value.slice aa m ca).ownBlock ≠ some q /\ (Value.slice ab mb cb).ownBlock ≠ some q) := ⟨hA.lt, hB.lt, dj, qa, qb⟩
 have C1 : Hid (Calls Tryz.prog 33 #[t.val] w1 fun e w' => ∃ T1, e = .returned T1.val /\ samV t T1 /\ Gt2 q w.heap.size (.slice aa m ca) (.slice ab mb cb) V w w'.heap.size T1 (w'.alloc (tBox T1)) /\ TRo (w'.alloc (tBox T1)) (.slice aa m ca) LA /\ TRo (w'.alloc (tBox T1)) (.slice ab mb cb) LB) := by
  refine (copyTree_W t w1 (ht.later h1) hsz).mono fun e w' ⟨T1, e1, e2, e3, e4⟩ => ⟨T1, e1, e3, ?_⟩
  have hb : Below w1.heap.size w1 (w'.alloc (tBox T1)) := e2.trans ((below_alloc _ _).mono e2.size)
  have hl := lt_of_block h3
  have hbw : Below w.heap.size w (w'.alloc (tBox T1)) := h1.trans (hb.mono h1.size)
  refine ⟨⟨Lw.ofBelow hbw, ?_, hqn, (hb.block _ hl).trans h3, heap_alloc_new _ _, ?_, (e4.mono (show w.heap.size + 2 <= w1.heap.size by omega)).later (below_alloc _ _)⟩, hA.later hbw, hB.later hbw⟩
  ·rw [hbw.block q hqn]; exact hq
  ·have := e2.size
   omega
 have V20 : Hid (V 20 = .slice aa m ca /\ V 21 = .slice ab mb cb) := ⟨h20, h21⟩
 have SZ : Hid (szT t <= 100000000) := hsz
 clear hq h20 h21 ht hsz hqn h1 h2 h3 hA hB dj qa qb hm hmb hlA hlB
 go_enter Tryz.func5, Tryz.ntmps5
 go_upto_region 1 with fail
 refine wp_world (fun w' => w' = w1) hw1 fun wx hwx => ?_
 subst hwx
 clear hw1
 obtain ⟨c0, c1, c2, c3⟩ : wx.cell? ⟨w.heap.size, 0, none⟩ = some (.int .i64 t.prod) /\ wx.cell? ⟨w.heap.size, 1, none⟩ = some (.int .i64 t.kind) /\ wx.cell? ⟨w.heap.size, 2, none⟩ = some (.string t.tx) /\ wx.cell? ⟨w.heap.size, 3, none⟩ = some (.slice t.ka t.kids.length t.kc) := ⟨X1.out.1.c0, by have := X1.out.1.c1; rwa [Nat.zero_add] at this, by have := X1.out.1.c2; rwa [Nat.zero_add] at this, by have := X1.out.1.c3; rwa [Nat.zero_add] at this⟩
 go_upto_region 2 with (go_at_call 33; refine C1.out.mono ?_; rintro e w2 ⟨T1, rfl, s2, g2⟩; have H2 : Hid (samV t T1 /\ Gt2 q w.heap.size (.slice aa m ca) (.slice ab mb cb) V w w2.heap.size T1 (w2.alloc (tBox T1)) /\ TRo (w2.alloc (tBox T1)) (.slice aa m ca) LA /\ TRo (w2.alloc (tBox T1)) (.slice ab mb cb) LB) := ⟨s2, g2⟩; clear s2 g2 c0 c1 c2 c3)
 clear C1 X1
 generalize w2.alloc (tBox T1) = W2 at *
 generalize w2.heap.size = b5 at *
 go_cut [5] (fun s wx => s = .pointer (some ⟨b5, 0, none⟩) /\ Gt3 q w.heap.size (.slice aa m ca) (.slice ab mb cb) V w b5 T1 LA LB wx)
 case first =>
  obtain ⟨wd, hwd⟩ : ∃ wd : World, wd = W2.drew := ⟨_, rfl⟩
  have HD : Hid (Gt2 q w.heap.size (.slice aa m ca) (.slice ab mb cb) V w b5 T1 wd /\ TRo wd (.slice aa m ca) LA /\ TRo wd (.slice ab mb cb) LB) := by rw [hwd]; exact ⟨H2.out.2.1.later (Below.refl _ _).drew, H2.out.2.2.1.later (Below.refl _ _).drew, H2.out.2.2.2.later (Below.refl _ _).drew⟩
  have KEEP : Hid (∀ w', Below wd.heap.size wd w' -> w'.cell? ⟨q, 20, none⟩ = some (.slice aa m ca) /\ TBx w' b5 0 T1) := fun w' hb => by
   have h := HD.out.1.later hb
   exact ⟨by rw [(h.cell (i := 20) (by omega)).1, V20.out.1], tb_tbxC h.bx⟩
  refine wp_region_x (S := SX 7 (fun _ => True) (fun w' => w'.cell? ⟨q, 20, none⟩ = some (.slice aa m ca) /\ TBx w' b5 0 T1)) (by kernel_rfl) ?_
  rw [<- hwd]
  clear hwd
  refine wpAnyX_take (m := 7) (i := 0) (v := ?_) rfl (by kernel_rfl) (by kernel_rfl) (by decide) (by decide +kernel) (by decide +kernel) (fun _ _ _ h => h) (by kernel_rfl) (Or.inl ⟨by rfl, ?_⟩) (SX.both trivial (KEEP.out _ (Below.refl _ _))) ?_
  rotate_left
  ·(intro w hSw; have z0 := hSw.2.1; have y0 := hSw.2.2.c0; have y1 := hSw.2.2.c1; have y2 := hSw.2.2.c2; have y3 := hSw.2.2.c3; simp only [Nat.zero_add] at y1 y2 y3; clear hSw; go_simp; try (with_reducible rfl))
  (try simp only [Act.put, List.setIfInBounds_toArray, List.set_cons_zero, List.set_cons_succ])
  refine wpAnyX_take (m := 7) (i := 1) (v := ?_) rfl (by kernel_rfl) (by kernel_rfl) (by decide) (by decide +kernel) (by decide +kernel) (fun _ _ _ h => h) (by kernel_rfl) (Or.inl ⟨by rfl, ?_⟩) (SX.both trivial (KEEP.out _ (Below.refl _ _))) ?_
  rotate_left
  ·(intro w hSw; have z0 := hSw.2.1; have y0 := hSw.2.2.c0; have y1 := hSw.2.2.c1; have y2 := hSw.2.2.c2; have y3 := hSw.2.2.c3; simp only [Nat.zero_add] at y1 y2 y3; clear hSw; go_simp; try (with_reducible rfl))
  (try simp only [Act.put, List.setIfInBounds_toArray, List.set_cons_zero, List.set_cons_succ])
  refine wpAnyX_take (m := 7) (i := 2) (v := ?_) rfl (by kernel_rfl) (by kernel_rfl) (by decide) (by decide +kernel) (by decide +kernel) (fun _ _ _ h => h) (by kernel_rfl) (Or.inl ⟨by rfl, ?_⟩) (SX.both trivial (KEEP.out _ (Below.refl _ _))) ?_
  rotate_left
  ·(intro w hSw; have z0 := hSw.2.1; have y0 := hSw.2.2.c0; have y1 := hSw.2.2.c1; have y2 := hSw.2.2.c2; have y3 := hSw.2.2.c3; simp only [Nat.zero_add] at y1 y2 y3; clear hSw; go_simp; try (with_reducible rfl))
  (try simp only [Act.put, List.setIfInBounds_toArray, List.set_cons_zero, List.set_cons_succ])
  refine wpAnyX_take (m := 7) (i := 3) (v := ?_) rfl (by kernel_rfl) (by kernel_rfl) (by decide) (by decide +kernel) (by decide +kernel) (fun _ _ _ h => h) (by kernel_rfl) (Or.inl ⟨by rfl, ?_⟩) (SX.both trivial (KEEP.out _ (Below.refl _ _))) ?_
  rotate_left
  ·(intro w hSw; have z0 := hSw.2.1; have y0 := hSw.2.2.c0; have y1 := hSw.2.2.c1; have y2 := hSw.2.2.c2; have y3 := hSw.2.2.c3; simp only [Nat.zero_add] at y1 y2 y3; clear hSw; go_simp; try (with_reducible rfl))
  (try simp only [Act.put, List.setIfInBounds_toArray, List.set_cons_zero, List.set_cons_succ])
  refine wpAnyX_take (m := 7) (i := 4) (v := ?_) rfl (by kernel_rfl) (by kernel_rfl) (by decide) (by decide +kernel) (by decide +kernel) (fun _ _ _ h => h) (by kernel_rfl) (Or.inl ⟨by rfl, ?_⟩) (SX.both trivial (KEEP.out _ (Below.refl _ _))) ?_
  rotate_left
  ·(intro w hSw; have z0 := hSw.2.1; have y0 := hSw.2.2.c0; have y1 := hSw.2.2.c1; have y2 := hSw.2.2.c2; have y3 := hSw.2.2.c3; simp only [Nat.zero_add] at y1 y2 y3; clear hSw; go_simp; try (with_reducible rfl))
  (try simp only [Act.put, List.setIfInBounds_toArray, List.set_cons_zero, List.set_cons_succ])
  refine wpAnyX_take (m := 7) (i := 5) (v := ?_) rfl (by kernel_rfl) (by kernel_rfl) (by decide) (by decide +kernel) (by decide +kernel) (fun _ _ _ h => h) (by kernel_rfl) (Or.inl ⟨by rfl, ?_⟩) (SX.both trivial (KEEP.out _ (Below.refl _ _))) ?_
  rotate_left
  ·(intro w hSw; have z0 := hSw.2.1; have y0 := hSw.2.2.c0; have y1 := hSw.2.2.c1; have y2 := hSw.2.2.c2; have y3 := hSw.2.2.c3; simp only [Nat.zero_add] at y1 y2 y3; clear hSw; go_simp; try (with_reducible rfl))
  (try simp only [Act.put, List.setIfInBounds_toArray, List.set_cons_zero, List.set_cons_succ])
  refine wpAnyX_one (j := 6) (by decide +kernel) rfl (fun K' hK => ?_)
  go_simp
  have BA : Hid (Below wd.heap.size wd (wd.alloc zTrM)) := below_alloc _ _
  refine hK.out _ _ (SX.both trivial (KEEP.out _ BA.out)) ?_
  clear hK K'
  (try simp only [Act.put, List.setIfInBounds_toArray, List.set_cons_zero, List.set_cons_succ])
  have H6 : Hid (Below wd.heap.size wd (wd.alloc zTrM)) := BA.out
  have NX : Hid (∀ j u, (trCells TV.none)[j]? = some u -> (wd.alloc zTrM).cell? ⟨wd.heap.size, j, none⟩ = some u) := fun j u hu => by
   rw [cellq_any (heap_alloc_new wd zTrM), <- hu]
   simp [trCells, TV.none, TV.prod, TV.kind, TV.tx, TV.ka, TV.kc, TV.kids, TV.pay, TV.mk]
   rfl
  clear BA
  generalize wd.alloc zTrM = w6 at *
  refine wpAnyX_one (j := 7) (by decide +kernel) rfl (fun K' hK => ?_)
  refine step_ro_append rkTree rfl (.tmp 11) (.tmp 14) rfl (.slice aa m ca) LA rfl (HD.out.2.1.later H6.out) wd.heap.size 1 TV.none rfl NX.out (by have := HM.out; omega) ?_
  intro a7 n7 c7 w7 ro hg
  obtain ⟨gr, c0, eg, -, -⟩ := RO.cell (f := trCells) (fun _ => rfl) ro (i := LA.length) (by simp)
  simp only [Value.slice.injEq, List.length_append, List.length_singleton, HM.out.1] at eg
  obtain ⟨rfl, rfl, rfl⟩ := eg
  have GA : Hid ((Value.slice aa m ca).ownBlock = some gr ∨ w6.heap.size <= gr) := grew_at hg
  have HVO : Hid (∀ j, (Value.slice aa m ca).ownBlock = some j -> j < w.heap.size /\ j ≠ q /\ ((Value.slice aa m ca).ownBlock = some j ∨ (Value.slice ab mb cb).ownBlock = some j)) := fun j hj => ⟨LT.out.1 j hj, fun e => LT.out.2.2.2.1 (by rw [hj, e]), .inl hj⟩
  have G7 : Hid (Gt2 q w.heap.size (.slice aa m ca) (.slice ab mb cb) V w b5 T1 w7) := (HD.out.1.later H6.out).grew hg HVO.out
  have hs67 := hg.grown.size
  have HQG : Hid (q ≠ gr /\ (∀ k, k = b5 ∨ k = w.heap.size + 1 ∨ k ∈ (adsL (kidsA T1)).map (·.1) -> k ≠ gr) /\ (gr < w.heap.size -> (Value.slice aa m ca).ownBlock = some gr ∨ (Value.slice ab mb cb).ownBlock = some gr) /\ ((Value.slice aa m ca).ownBlock = some gr ∨ w.heap.size <= gr) /\ gr ≠ w.heap.size + 1) := by
   have hG6 := HD.out.1.later H6.out
   have h1 := lt_of_block hG6.bx
   have h2 := lt_of_block hG6.rz
   have h3 := hG6.qn
   have h4 := hG6.b5
   have hk : ∀ k, w.heap.size <= k -> k < w6.heap.size -> k ≠ gr := fun k k1 k2 => by
    rcases GA.out with e | e
    ·have := (HVO.out gr e).1
     omega
    ·omega
   refine ⟨fun e => ?_, fun k hkk => ?_, fun hlt => ?_, ?_, fun e => hk _ (Nat.le_succ _) h2 e.symm⟩
   ·rcases GA.out with e' | e'
    ·exact (HVO.out gr e').2.1 e.symm
    ·omega
   ·rcases hkk with rfl | rfl | hkk
    ·exact hk _ (by omega) h1
    ·exact hk _ (by omega) h2
    ·obtain ⟨a, ha, rfl⟩ := List.mem_map.1 hkk
     exact hk _ (by have := (hG6.ow.ty a ha).1; omega) (kids_lt hG6.ow.ta ha)
   ·rcases GA.out with e' | e'
    ·exact (HVO.out gr e').2.2
    ·omega
   ·rcases GA.out with e' | e'
    ·exact .inl e'
    ·exact .inr (by omega)
  have RB : Hid (TRo w7 (.slice ab mb cb) LB /\ (Value.slice ab mb cb).ownBlock ≠ some gr) := by
   have h6 := HD.out.2.2.later H6.out
   refine ⟨h6.kept fun j hj => hg.grown.block j (h6.lt j hj) fun e => LT.out.2.2.1 j e.symm hj, fun e => ?_⟩
   rcases GA.out with e' | e'
   ·exact LT.out.2.2.1 gr e' e
   ·have := h6.lt gr e
    omega
  have FIN : Hid (Gt3 q w.heap.size (.slice aa m ca) (.slice ab mb cb) V w b5 T1 LA LB ((set4 w7 gr (m * 4) T1).setCell ⟨q, 20, none⟩ (.slice (some ⟨gr, 0, none⟩) (m + 1) c7))) := by
   have hG := G7.out.put (o := m * 4) T1 20 (.slice (some ⟨gr, 0, none⟩) (m + 1) c7) HQG.out.2.1 HQG.out.1 HQG.out.2.2.1
   have hR := ro_put (i := 20) T1 (.slice (some ⟨gr, 0, none⟩) (m + 1) c7) HQG.out.1 ro
   have hR2 := ro_put_other (i := 20) (o := m * 4) T1 (.slice (some ⟨gr, 0, none⟩) (m + 1) c7) RB.out.2 LT.out.2.2.2.2 RB.out.1
   rw [HM.out.1] at hR
   refine ⟨gr, c7, ?_, ?_, hR2, HQG.out.2.2.2.1, RB.out.2, HQG.out.2.2.2.2, Ne.symm HQG.out.1, fun a ha => HQG.out.2.1 _ (.inr (.inr (List.mem_map.2 ⟨a, ha, rfl⟩)))⟩
   ·rw [HM.out.1]; exact hG
   ·rw [HM.out.1]; exact hR
  have th7 : w7.there gr (m * 4) 4 := by
   have := ro_thereM ro
   rwa [HM.out.1] at this
  obtain ⟨q20, fr20⟩ := G7.out.cell (i := 20) (by omega)
  rw [V20.out.1] at q20
  have s20 : (set4 w7 gr (m * 4) T1).cell? ⟨q, 20, none⟩ = some (.slice aa m ca) /\ (set4 w7 gr (m * 4) T1).frozen? ⟨q, 20, none⟩ = false := by
   have e := set4_other w7 gr (m * 4) T1 q HQG.out.1
   refine ⟨(World.cell?_of_block e).trans q20, ?_⟩
   have := fr20
   simp only [World.frozen?] at this ⊢
   rw [e]; exact this
  have th8 : (w7.setCell ⟨q, 20, none⟩ (.slice (some ⟨gr, 0, none⟩) (m + 1) c7)).there gr (m * 4) 4 := fun j hj => by
   obtain ⟨t1, t2⟩ := th7 j hj
   have e : (w7.setCell ⟨q, 20, none⟩ (.slice (some ⟨gr, 0, none⟩) (m + 1) c7)).heap[gr]? = w7.heap[gr]? := Below.heap_setCell _ _ _ _ (Ne.symm HQG.out.1)
   refine ⟨by rw [World.cell?_of_block e]; exact t1, ?_⟩
   simp only [World.frozen?] at t2 ⊢
   rw [e]; exact t2
  have SW : Hid (Gt3 q w.heap.size (.slice aa m ca) (.slice ab mb cb) V w b5 T1 LA LB (set4 (w7.setCell ⟨q, 20, none⟩ (.slice (some ⟨gr, 0, none⟩) (m + 1) c7)) gr (m * 4) T1)) := by
   show Gt3 _ _ _ _ _ _ _ _ _ _ _
   rw [set_swapM _ HQG.out.1]; exact FIN.out
  refine hK.out _ _ (SX.one trivial (by kernel_rfl)) ?_
  have e1 : (m : Int) < (m : Int) + 1 := by omega
  clear hK K' hg ro hs67 NX
  (try simp only [Act.put, List.setIfInBounds_toArray, List.set_cons_zero, List.set_cons_succ])
  refine wpAnyX_takePM (m := 7) (i := 8) (v := ?_) rfl (by kernel_rfl) (by decide) (by decide +kernel) (by decide +kernel) (fun _ _ _ h => h) (Or.inl ⟨by rfl, ?_⟩) (SX.one trivial (by kernel_rfl)) ?_
  rotate_left
  ·(intro w hSw; clear hSw; go_simp; try (with_reducible rfl))
  (try simp only [Act.put, List.setIfInBounds_toArray, List.set_cons_zero, List.set_cons_succ])
  refine wpAnyX_takePM (m := 7) (i := 10) (v := ?_) rfl (by kernel_rfl) (by decide) (by decide +kernel) (by decide +kernel) (fun _ _ _ h => h) (Or.inl ⟨by rfl, ?_⟩) (SX.one trivial (by kernel_rfl)) ?_
  rotate_left
  ·(intro w hSw; clear hSw; go_simp; try (with_reducible rfl))
  (try simp only [Act.put, List.setIfInBounds_toArray, List.set_cons_zero, List.set_cons_succ])
  refine wpAnyX_takePM (m := 7) (i := 11) (v := ?_) rfl (by kernel_rfl) (by decide) (by decide +kernel) (by decide +kernel) (fun _ _ _ h => h) (Or.inl ⟨by rfl, ?_⟩) (SX.one trivial (by kernel_rfl)) ?_
  rotate_left
  ·(intro w hSw; clear hSw; go_simp; try (with_reducible rfl))
  (try simp only [Act.put, List.setIfInBounds_toArray, List.set_cons_zero, List.set_cons_succ])
  refine pickT (l := [9, 12]) (by decide +kernel) (by simp) (fun j hj => ?_)
  simp only [List.mem_cons, List.not_mem_nil, or_false] at hj
  rcases hj with hj | hj <;> rw [hj]
  ·refine ⟨_, rfl, fun K' hK => ?_⟩
   refine step_storeO rfl 26 (.tmp 16) (.tmp 12) rfl gr (m * 4) #[.int .i64 T1.prod, .int .i64 T1.kind, .string T1.tx, .slice T1.ka T1.kids.length T1.kc] rfl rfl th7 (by kernel_rfl) (by kernel_rfl) ?_
   have e7 : w7.setCells gr (m * 4) (#[Value.int .i64 T1.prod, .int .i64 T1.kind, .string T1.tx, .slice T1.ka T1.kids.length T1.kc] : Array Value).toList = set4 w7 gr (m * 4) T1 := rfl
   rw [e7]
   clear e7
   refine hK.out _ _ (SX.one trivial (by kernel_rfl)) ?_
   clear hK K' SW
   (try simp only [Act.put, List.setIfInBounds_toArray, List.set_cons_zero, List.set_cons_succ])
   obtain ⟨s1, s2⟩ := s20
   generalize set4 w7 gr (m * 4) T1 = w8 at *
   refine wpAnyX_one (j := 12) (by decide +kernel) rfl (fun K' hK => ?_)
   go_simp
   refine hK.out _ _ (SX.one trivial (by kernel_rfl)) ?_
   clear hK K'
   (try simp only [Act.put, List.setIfInBounds_toArray, List.set_cons_zero, List.set_cons_succ])
   refine wpAnyX_done (by decide +kernel) ?_
   generalize w8.setCell ⟨q, 20, none⟩ (.slice (some ⟨gr, 0, none⟩) (m + 1) c7) = w9 at *
   go_wp2_with fail
   go_meet
   exact ⟨rfl, FIN.out⟩
  ·refine ⟨_, rfl, fun K' hK => ?_⟩
   go_simp
   refine hK.out _ _ (SX.one trivial (by kernel_rfl)) ?_
   clear hK K' FIN s20
   (try simp only [Act.put, List.setIfInBounds_toArray, List.set_cons_zero, List.set_cons_succ])
   refine wpAnyX_one (j := 9) (by decide +kernel) rfl (fun K' hK => ?_)
   refine step_storeO rfl 26 (.tmp 16) (.tmp 12) rfl gr (m * 4) #[.int .i64 T1.prod, .int .i64 T1.kind, .string T1.tx, .slice T1.ka T1.kids.length T1.kc] rfl rfl th8 (by kernel_rfl) (by kernel_rfl) ?_
   have e7 : (w7.setCell ⟨q, 20, none⟩ (.slice (some ⟨gr, 0, none⟩) (m + 1) c7)).setCells gr (m * 4) (#[Value.int .i64 T1.prod, .int .i64 T1.kind, .string T1.tx, .slice T1.ka T1.kids.length T1.kc] : Array Value).toList = set4 (w7.setCell ⟨q, 20, none⟩ (.slice (some ⟨gr, 0, none⟩) (m + 1) c7)) gr (m * 4) T1 := rfl
   rw [e7]
   clear e7
   refine hK.out _ _ (SX.one trivial (by kernel_rfl)) ?_
   clear hK K'
   (try simp only [Act.put, List.setIfInBounds_toArray, List.set_cons_zero, List.set_cons_succ])
   refine wpAnyX_done (by decide +kernel) ?_
   generalize set4 (w7.setCell ⟨q, 20, none⟩ (.slice (some ⟨gr, 0, none⟩) (m + 1) c7)) gr (m * 4) T1 = w9 at *
   go_wp2_with fail
   go_meet
   exact ⟨rfl, SW.out⟩
 case rest =>
  obtain ⟨e5, ⟨g1, c1, G1, R1, RB1, hN1, hB1, hn2, hgq, hg1a⟩⟩ := hcut
  subst e5
  rw [HM.out.1] at G1 R1
  have HC : Hid (Gt2 q w.heap.size (.slice aa m ca) (.slice ab mb cb) (updV V 20 (.slice (some ⟨g1, 0, none⟩) (m + 1) c1)) w b5 T1 wc /\ TRo wc (.slice (some ⟨g1, 0, none⟩) (m + 1) c1) (LA ++ [T1]) /\ TRo wc (.slice ab mb cb) LB /\ ((Value.slice aa m ca).ownBlock = some g1 ∨ w.heap.size <= g1) /\ (Value.slice ab mb cb).ownBlock ≠ some g1 /\ g1 ≠ w.heap.size + 1 /\ g1 ≠ q /\ ∀ a ∈ adsL (kidsA T1), a.1 ≠ g1) := ⟨G1, R1, RB1, hN1, hB1, hn2, hgq, hg1a⟩
  have ST : Hid (samV t T1) := H2.out.1
  have V21 : Hid ((updV V 20 (.slice (some ⟨g1, 0, none⟩) (m + 1) c1)) 21 = .slice ab mb cb) := by
   show updV _ _ _ _ = _
   unfold updV
   rw [if_neg (by decide)]
   exact V20.out.2
  clear G1 R1 RB1 hN1 hB1 hn2 hgq hg1a H2
  go_upto_region 3 with fail
  go_cut [5] (fun s wx => s = .pointer (some ⟨b5, 0, none⟩) /\ Gt4 q w.heap.size (.slice aa m ca) (.slice ab mb cb) (updV V 20 (.slice (some ⟨g1, 0, none⟩) (m + 1) c1)) w b5 T1 LA LB (.slice (some ⟨g1, 0, none⟩) (m + 1) c1) wx)
  case first =>
   obtain ⟨wd, hwd⟩ : ∃ wd : World, wd = wc.drew := ⟨_, rfl⟩
   have HD : Hid (Gt2 q w.heap.size (.slice aa m ca) (.slice ab mb cb) (updV V 20 (.slice (some ⟨g1, 0, none⟩) (m + 1) c1)) w b5 T1 wd /\ TRo wd (.slice (some ⟨g1, 0, none⟩) (m + 1) c1) (LA ++ [T1]) /\ TRo wd (.slice ab mb cb) LB) := by rw [hwd]; exact ⟨HC.out.1.later (Below.refl _ _).drew, HC.out.2.1.later (Below.refl _ _).drew, HC.out.2.2.1.later (Below.refl _ _).drew⟩
   have KEEP : Hid (∀ w', Below wd.heap.size wd w' -> w'.cell? ⟨q, 21, none⟩ = some (.slice ab mb cb) /\ TBx w' b5 0 T1) := fun w' hb => by
    have h := HD.out.1.later hb
    exact ⟨by rw [(h.cell (i := 21) (by omega)).1, V21.out], tb_tbxC h.bx⟩
   refine wp_region_x (S := SX 8 (fun _ => True) (fun w' => w'.cell? ⟨q, 21, none⟩ = some (.slice ab mb cb) /\ TBx w' b5 0 T1)) (by kernel_rfl) ?_
   rw [<- hwd]
   clear hwd
   refine wpAnyX_take (m := 8) (i := 0) (v := ?_) rfl (by kernel_rfl) (by kernel_rfl) (by decide) (by decide +kernel) (by decide +kernel) (fun _ _ _ h => h) (by kernel_rfl) (Or.inl ⟨by rfl, ?_⟩) (SX.both trivial (KEEP.out _ (Below.refl _ _))) ?_
   rotate_left
   ·(intro w hSw; have z0 := hSw.2.1; have y0 := hSw.2.2.c0; have y1 := hSw.2.2.c1; have y2 := hSw.2.2.c2; have y3 := hSw.2.2.c3; simp only [Nat.zero_add] at y1 y2 y3; clear hSw; go_simp; try (with_reducible rfl))
   (try simp only [Act.put, List.setIfInBounds_toArray, List.set_cons_zero, List.set_cons_succ])
   refine wpAnyX_take (m := 8) (i := 1) (v := ?_) rfl (by kernel_rfl) (by kernel_rfl) (by decide) (by decide +kernel) (by decide +kernel) (fun _ _ _ h => h) (by kernel_rfl) (Or.inl ⟨by rfl, ?_⟩) (SX.both trivial (KEEP.out _ (Below.refl _ _))) ?_
   rotate_left
   ·(intro w hSw; have z0 := hSw.2.1; have y0 := hSw.2.2.c0; have y1 := hSw.2.2.c1; have y2 := hSw.2.2.c2; have y3 := hSw.2.2.c3; simp only [Nat.zero_add] at y1 y2 y3; clear hSw; go_simp; try (with_reducible rfl))
   (try simp only [Act.put, List.setIfInBounds_toArray, List.set_cons_zero, List.set_cons_succ])
   refine wpAnyX_take (m := 8) (i := 2) (v := ?_) rfl (by kernel_rfl) (by kernel_rfl) (by decide) (by decide +kernel) (by decide +kernel) (fun _ _ _ h => h) (by kernel_rfl) (Or.inl ⟨by rfl, ?_⟩) (SX.both trivial (KEEP.out _ (Below.refl _ _))) ?_
   rotate_left
   ·(intro w hSw; have z0 := hSw.2.1; have y0 := hSw.2.2.c0; have y1 := hSw.2.2.c1; have y2 := hSw.2.2.c2; have y3 := hSw.2.2.c3; simp only [Nat.zero_add] at y1 y2 y3; clear hSw; go_simp; try (with_reducible rfl))
   (try simp only [Act.put, List.setIfInBounds_toArray, List.set_cons_zero, List.set_cons_succ])
   refine wpAnyX_take (m := 8) (i := 3) (v := ?_) rfl (by kernel_rfl) (by kernel_rfl) (by decide) (by decide +kernel) (by decide +kernel) (fun _ _ _ h => h) (by kernel_rfl) (Or.inl ⟨by rfl, ?_⟩) (SX.both trivial (KEEP.out _ (Below.refl _ _))) ?_
   rotate_left
   ·(intro w hSw; have z0 := hSw.2.1; have y0 := hSw.2.2.c0; have y1 := hSw.2.2.c1; have y2 := hSw.2.2.c2; have y3 := hSw.2.2.c3; simp only [Nat.zero_add] at y1 y2 y3; clear hSw; go_simp; try (with_reducible rfl))
   (try simp only [Act.put, List.setIfInBounds_toArray, List.set_cons_zero, List.set_cons_succ])
   refine wpAnyX_take (m := 8) (i := 4) (v := ?_) rfl (by kernel_rfl) (by kernel_rfl) (by decide) (by decide +kernel) (by decide +kernel) (fun _ _ _ h => h) (by kernel_rfl) (Or.inl ⟨by rfl, ?_⟩) (SX.both trivial (KEEP.out _ (Below.refl _ _))) ?_
   rotate_left
   ·(intro w hSw; have z0 := hSw.2.1; have y0 := hSw.2.2.c0; have y1 := hSw.2.2.c1; have y2 := hSw.2.2.c2; have y3 := hSw.2.2.c3; simp only [Nat.zero_add] at y1 y2 y3; clear hSw; go_simp; try (with_reducible rfl))
   (try simp only [Act.put, List.setIfInBounds_toArray, List.set_cons_zero, List.set_cons_succ])
   refine wpAnyX_take (m := 8) (i := 6) (v := ?_) rfl (by kernel_rfl) (by kernel_rfl) (by decide) (by decide +kernel) (by decide +kernel) (fun _ _ _ h => h) (by kernel_rfl) (Or.inl ⟨by rfl, ?_⟩) (SX.both trivial (KEEP.out _ (Below.refl _ _))) ?_
   rotate_left
   ·(intro w hSw; have z0 := hSw.2.1; have y0 := hSw.2.2.c0; have y1 := hSw.2.2.c1; have y2 := hSw.2.2.c2; have y3 := hSw.2.2.c3; simp only [Nat.zero_add] at y1 y2 y3; clear hSw; go_simp; try (with_reducible rfl))
   (try simp only [Act.put, List.setIfInBounds_toArray, List.set_cons_zero, List.set_cons_succ])
   have SZ1 : Hid (szT T1 <= 100000000) := by
    show _ <= _
    rw [<- samV_size _ _ ST.out]
    exact SZ.out
   refine wpAnyX_twoM (β1 := TV) (β2 := Nat) 5 7 rfl rfl rfl rfl (by decide) (by decide +kernel) (by decide +kernel) (by decide +kernel) (I := fun w' => Below wd.heap.size wd w') (fun w' w'' h q => h.trans (q.mono h.size)) (fun w' L' h => SX.both trivial (KEEP.out w' h)) (T1 := fun T2 w' => samV T1 T2 /\ OwT wd.heap.size w' T2) (T2 := fun b' w' => w'.heap[b']? = some zTree) (f1 := TV.val) (f2 := fun b' => .slice (some ⟨b', 0, none⟩) 1 1) (fun T2 w' w'' h q => ⟨h.1, h.2.later q⟩) (fun b' w' w'' h q => (q.block _ (lt_of_block h)).trans h) (At := fun a' => a'.eval (.tmp 23) = T1.val) rfl (fun a' v h => (put_evalT a' (by decide) v).trans h) (fun a' v h => (put_evalT a' (by decide) v).trans h) ?s1 ?s2 (Below.refl _ _) ?go
   case s1 =>
    rintro a' w1 K h23 hi hk
    refine step_callX rfl 33 #[T1.val] _ (run_copyM (v0 := T1.val) rfl h23 _) (copyTree_W T1 w1 (HD.out.1.later hi).ow.ta SZ1.out) ?_
    rintro e w' ⟨T2, rfl, e2, e3, e4⟩
    exact ⟨_, rfl, hk T2 w' e2 ⟨e3, e4.mono hi.size⟩⟩
   case s2 =>
    rintro a' w1 K - hi hk
    go_simp
    exact hk w1.heap.size _ (below_alloc _ _) (heap_alloc_new _ _)
   case go =>
    rintro T2 b7 w6 hI6 - ⟨sm, ow⟩ hz7
    have H6 : Hid (Below wd.heap.size wd w6) := hI6
    have HT2 : Hid (samV T1 T2 /\ OwT wd.heap.size w6 T2) := ⟨sm, ow⟩
    have NX : Hid (∀ j u, (trCells TV.none)[j]? = some u -> w6.cell? ⟨b7, j, none⟩ = some u) := fun j u hu => by
     rw [cellq_any hz7, <- hu]
     simp [trCells, TV.none, TV.prod, TV.kind, TV.tx, TV.ka, TV.kc, TV.kids, TV.pay, TV.mk]
    clear hI6 sm ow hz7
    (try simp only [Act.put, List.setIfInBounds_toArray, List.set_cons_zero, List.set_cons_succ])
    refine wpAnyX_one (j := 8) (by decide +kernel) rfl (fun K' hK => ?_)
    refine step_ro_append rkTree rfl (.tmp 22) (.tmp 26) rfl (.slice ab mb cb) LB rfl (HD.out.2.2.later H6.out) b7 1 TV.none rfl NX.out (by have := HM.out; omega) ?_
    intro a7 n7 c7 w7 ro hg
    obtain ⟨gr, c0, eg, -, -⟩ := RO.cell (f := trCells) (fun _ => rfl) ro (i := LB.length) (by simp)
    simp only [Value.slice.injEq, List.length_append, List.length_singleton, HM.out.2.1] at eg
    obtain ⟨rfl, rfl, rfl⟩ := eg
    have GA : Hid ((Value.slice ab mb cb).ownBlock = some gr ∨ w6.heap.size <= gr) := grew_at hg
    have HVO : Hid (∀ j, (Value.slice ab mb cb).ownBlock = some j -> j < w.heap.size /\ j ≠ q /\ ((Value.slice aa m ca).ownBlock = some j ∨ (Value.slice ab mb cb).ownBlock = some j)) := fun j hj => ⟨LT.out.2.1 j hj, fun e => LT.out.2.2.2.2 (by rw [hj, e]), .inr hj⟩
    have G7 : Hid (Gt2 q w.heap.size (.slice aa m ca) (.slice ab mb cb) (updV V 20 (.slice (some ⟨g1, 0, none⟩) (m + 1) c1)) w b5 T1 w7) := (HD.out.1.later H6.out).grew hg HVO.out
    have hs67 := hg.grown.size
    have HQG : Hid (q ≠ gr /\ (∀ k, k = b5 ∨ k = w.heap.size + 1 ∨ k ∈ (adsL (kidsA T1)).map (·.1) -> k ≠ gr) /\ (gr < w.heap.size -> (Value.slice aa m ca).ownBlock = some gr ∨ (Value.slice ab mb cb).ownBlock = some gr) /\ ((Value.slice ab mb cb).ownBlock = some gr ∨ w.heap.size <= gr) /\ gr ≠ w.heap.size + 1) := by
     have hG6 := HD.out.1.later H6.out
     have h1 := lt_of_block hG6.bx
     have h2 := lt_of_block hG6.rz
     have h3 := hG6.qn
     have h4 := hG6.b5
     have hk : ∀ k, w.heap.size <= k -> k < w6.heap.size -> k ≠ gr := fun k k1 k2 => by
      rcases GA.out with e | e
      ·have := (HVO.out gr e).1
       omega
      ·omega
     refine ⟨fun e => ?_, fun k hkk => ?_, fun hlt => ?_, ?_, fun e => hk _ (Nat.le_succ _) h2 e.symm⟩
     ·rcases GA.out with e' | e'
      ·exact (HVO.out gr e').2.1 e.symm
      ·omega
     ·rcases hkk with rfl | rfl | hkk
      ·exact hk _ (by omega) h1
      ·exact hk _ (by omega) h2
      ·obtain ⟨a, ha, rfl⟩ := List.mem_map.1 hkk
       exact hk _ (by have := (hG6.ow.ty a ha).1; omega) (kids_lt hG6.ow.ta ha)
     ·rcases GA.out with e' | e'
      ·exact (HVO.out gr e').2.2
      ·omega
     ·rcases GA.out with e' | e'
      ·exact .inl e'
      ·exact .inr (by omega)
    have RA : Hid (TRo w7 (.slice (some ⟨g1, 0, none⟩) (m + 1) c1) (LA ++ [T1]) /\ g1 ≠ gr /\ g1 ≠ q /\ TAt w7 T2 /\ ∀ a ∈ adsL (kidsA T2), w.heap.size + 1 < a.1 /\ a.1 ≠ gr /\ a.1 ≠ q /\ a.1 ≠ g1) := by
     have h6 := HD.out.2.1.later H6.out
     have hG6 := HD.out.1.later H6.out
     have h2 := lt_of_block HD.out.1.rz
     have hnn : ∀ a ∈ adsL (kidsA T2), (Value.slice ab mb cb).ownBlock ≠ some a.1 := fun a ha e => by
      have := (HT2.out.2.ty a ha).1
      have := (HVO.out _ e).1
      omega
     refine ⟨h6.kept fun j hj => hg.grown.block j (h6.lt j hj) fun e => ?_, fun e => ?_, HC.out.2.2.2.2.2.2.1, keep_at T2 0 0 HT2.out.2.ta fun a ha => ⟨Nat.lt_of_lt_of_le (kids_lt HT2.out.2.ta ha) hs67, fun j _ => World.cell?_of_block (hg.grown.block _ (kids_lt HT2.out.2.ta ha) fun e => hnn a ha e.symm)⟩, fun a ha => ?_⟩
     ·simp [Value.ownBlock] at hj
      exact HC.out.2.2.2.2.1 (by rw [<- e, hj])
     ·subst e
      rcases GA.out with e' | e'
      ·exact HC.out.2.2.2.2.1 e'
      ·have := h6.lt g1 rfl
       omega
     ·have k1 := (HT2.out.2.ty a ha).1
      have k2 := kids_lt HT2.out.2.ta ha
      have k3 := hG6.qn
      have k4 := HD.out.2.1.lt g1 rfl
      have k5 := HD.out.1.qn
      have k6 := lt_of_block HD.out.1.hq
      refine ⟨by omega, fun e => ?_, by omega, by omega⟩
      rcases GA.out with e' | e'
      ·exact hnn a ha (by rw [e', e])
      ·omega
    have FIN : Hid (Gt4 q w.heap.size (.slice aa m ca) (.slice ab mb cb) (updV V 20 (.slice (some ⟨g1, 0, none⟩) (m + 1) c1)) w b5 T1 LA LB (.slice (some ⟨g1, 0, none⟩) (m + 1) c1) ((set4 w7 gr (mb * 4) T2).setCell ⟨q, 21, none⟩ (.slice (some ⟨gr, 0, none⟩) (mb + 1) c7))) := by
     have hG := G7.out.put (o := mb * 4) T2 21 (.slice (some ⟨gr, 0, none⟩) (mb + 1) c7) HQG.out.2.1 HQG.out.1 HQG.out.2.2.1
     have hR := ro_put (i := 21) T2 (.slice (some ⟨gr, 0, none⟩) (mb + 1) c7) HQG.out.1 ro
     have hR2 := ro_put_other (i := 21) (o := mb * 4) T2 (.slice (some ⟨gr, 0, none⟩) (mb + 1) c7) (v := .slice (some ⟨g1, 0, none⟩) (m + 1) c1) (own_neM RA.out.2.1) (own_neM RA.out.2.2.1) RA.out.1
     rw [HM.out.2.1] at hR
     have hT := tat_puts (q := q) (i := 21) (o := mb * 4) (g := gr) T2 (.slice (some ⟨gr, 0, none⟩) (mb + 1) c7) RA.out.2.2.2.1 fun a ha => ⟨(RA.out.2.2.2.2 a ha).2.1, (RA.out.2.2.2.2 a ha).2.2.1⟩
     have hO : (Value.slice (some ⟨g1, 0, none⟩) (m + 1) c1).ownBlock ≠ some gr := own_neM RA.out.2.1
     have hL : ∀ a ∈ adsL (kidsA T2), w.heap.size + 1 < a.1 := fun a ha => (RA.out.2.2.2.2 a ha).1
     generalize (set4 w7 gr (mb * 4) T2).setCell ⟨q, 21, none⟩ (.slice (some ⟨gr, 0, none⟩) (mb + 1) c7) = wz at *
     refine ⟨T2, gr, c7, ?_, hR2, ?_, HT2.out.1, hT, hL, HQG.out.2.2.2.1, hO, HQG.out.2.2.2.2, Ne.symm HQG.out.1, fun a ha => HQG.out.2.1 _ (.inr (.inr (List.mem_map.2 ⟨a, ha, rfl⟩))), fun a ha => ⟨(RA.out.2.2.2.2 a ha).2.1, own_neM (Ne.symm (RA.out.2.2.2.2 a ha).2.2.2)⟩⟩
     ·rw [HM.out.2.1]; exact hG
     ·rw [HM.out.2.1]; exact hR
    have th7 : w7.there gr (mb * 4) 4 := by
     have := ro_thereM ro
     rwa [HM.out.2.1] at this
    obtain ⟨q20, fr20⟩ := G7.out.cell (i := 21) (by omega)
    rw [V21.out] at q20
    have s20 : (set4 w7 gr (mb * 4) T2).cell? ⟨q, 21, none⟩ = some (.slice ab mb cb) /\ (set4 w7 gr (mb * 4) T2).frozen? ⟨q, 21, none⟩ = false := by
     have e := set4_other w7 gr (mb * 4) T2 q HQG.out.1
     refine ⟨(World.cell?_of_block e).trans q20, ?_⟩
     have := fr20
     simp only [World.frozen?] at this ⊢
     rw [e]; exact this
    have th8 : (w7.setCell ⟨q, 21, none⟩ (.slice (some ⟨gr, 0, none⟩) (mb + 1) c7)).there gr (mb * 4) 4 := fun j hj => by
     obtain ⟨t1, t2⟩ := th7 j hj
     have e : (w7.setCell ⟨q, 21, none⟩ (.slice (some ⟨gr, 0, none⟩) (mb + 1) c7)).heap[gr]? = w7.heap[gr]? := Below.heap_setCell _ _ _ _ (Ne.symm HQG.out.1)
     refine ⟨by rw [World.cell?_of_block e]; exact t1, ?_⟩
     simp only [World.frozen?] at t2 ⊢
     rw [e]; exact t2
    have SW : Hid (Gt4 q w.heap.size (.slice aa m ca) (.slice ab mb cb) (updV V 20 (.slice (some ⟨g1, 0, none⟩) (m + 1) c1)) w b5 T1 LA LB (.slice (some ⟨g1, 0, none⟩) (m + 1) c1) (set4 (w7.setCell ⟨q, 21, none⟩ (.slice (some ⟨gr, 0, none⟩) (mb + 1) c7)) gr (mb * 4) T2)) := by
     show Gt4 _ _ _ _ _ _ _ _ _ _ _ _
     rw [set_swapM _ HQG.out.1]; exact FIN.out
    refine hK.out _ _ (SX.one trivial (by kernel_rfl)) ?_
    have e1 : (mb : Int) < (mb : Int) + 1 := by omega
    clear hK K' hg ro hs67 NX
    (try simp only [Act.put, List.setIfInBounds_toArray, List.set_cons_zero, List.set_cons_succ])
    refine wpAnyX_takePM (m := 8) (i := 9) (v := ?_) rfl (by kernel_rfl) (by decide) (by decide +kernel) (by decide +kernel) (fun _ _ _ h => h) (Or.inl ⟨by rfl, ?_⟩) (SX.one trivial (by kernel_rfl)) ?_
    rotate_left
    ·(intro w hSw; clear hSw; go_simp; try (with_reducible rfl))
    (try simp only [Act.put, List.setIfInBounds_toArray, List.set_cons_zero, List.set_cons_succ])
    refine wpAnyX_takePM (m := 8) (i := 11) (v := ?_) rfl (by kernel_rfl) (by decide) (by decide +kernel) (by decide +kernel) (fun _ _ _ h => h) (Or.inl ⟨by rfl, ?_⟩) (SX.one trivial (by kernel_rfl)) ?_
    rotate_left
    ·(intro w hSw; clear hSw; go_simp; try (with_reducible rfl))
    (try simp only [Act.put, List.setIfInBounds_toArray, List.set_cons_zero, List.set_cons_succ])
    refine wpAnyX_takePM (m := 8) (i := 12) (v := ?_) rfl (by kernel_rfl) (by decide) (by decide +kernel) (by decide +kernel) (fun _ _ _ h => h) (Or.inl ⟨by rfl, ?_⟩) (SX.one trivial (by kernel_rfl)) ?_
    rotate_left
    ·(intro w hSw; clear hSw; go_simp; try (with_reducible rfl))
    (try simp only [Act.put, List.setIfInBounds_toArray, List.set_cons_zero, List.set_cons_succ])
    refine pickT (l := [10, 13]) (by decide +kernel) (by simp) (fun j hj => ?_)
    simp only [List.mem_cons, List.not_mem_nil, or_false] at hj
    rcases hj with hj | hj <;> rw [hj]
    ·refine ⟨_, rfl, fun K' hK => ?_⟩
     refine step_storeO rfl 26 (.tmp 28) (.tmp 24) rfl gr (mb * 4) #[.int .i64 T2.prod, .int .i64 T2.kind, .string T2.tx, .slice T2.ka T2.kids.length T2.kc] rfl rfl th7 (by kernel_rfl) (by kernel_rfl) ?_
     have e7 : w7.setCells gr (mb * 4) (#[Value.int .i64 T2.prod, .int .i64 T2.kind, .string T2.tx, .slice T2.ka T2.kids.length T2.kc] : Array Value).toList = set4 w7 gr (mb * 4) T2 := rfl
     rw [e7]
     clear e7
     refine hK.out _ _ (SX.one trivial (by kernel_rfl)) ?_
     clear hK K' SW
     (try simp only [Act.put, List.setIfInBounds_toArray, List.set_cons_zero, List.set_cons_succ])
     obtain ⟨s1, s2⟩ := s20
     generalize set4 w7 gr (mb * 4) T2 = w8 at *
     refine wpAnyX_one (j := 13) (by decide +kernel) rfl (fun K' hK => ?_)
     go_simp
     refine hK.out _ _ (SX.one trivial (by kernel_rfl)) ?_
     clear hK K'
     (try simp only [Act.put, List.setIfInBounds_toArray, List.set_cons_zero, List.set_cons_succ])
     refine wpAnyX_done (by decide +kernel) ?_
     generalize w8.setCell ⟨q, 21, none⟩ (.slice (some ⟨gr, 0, none⟩) (mb + 1) c7) = w9 at *
     go_wp2_with fail
     go_meet
     exact ⟨rfl, FIN.out⟩
    ·refine ⟨_, rfl, fun K' hK => ?_⟩
     go_simp
     refine hK.out _ _ (SX.one trivial (by kernel_rfl)) ?_
     clear hK K' FIN s20
     (try simp only [Act.put, List.setIfInBounds_toArray, List.set_cons_zero, List.set_cons_succ])
     refine wpAnyX_one (j := 10) (by decide +kernel) rfl (fun K' hK => ?_)
     refine step_storeO rfl 26 (.tmp 28) (.tmp 24) rfl gr (mb * 4) #[.int .i64 T2.prod, .int .i64 T2.kind, .string T2.tx, .slice T2.ka T2.kids.length T2.kc] rfl rfl th8 (by kernel_rfl) (by kernel_rfl) ?_
     have e7 : (w7.setCell ⟨q, 21, none⟩ (.slice (some ⟨gr, 0, none⟩) (mb + 1) c7)).setCells gr (mb * 4) (#[Value.int .i64 T2.prod, .int .i64 T2.kind, .string T2.tx, .slice T2.ka T2.kids.length T2.kc] : Array Value).toList = set4 (w7.setCell ⟨q, 21, none⟩ (.slice (some ⟨gr, 0, none⟩) (mb + 1) c7)) gr (mb * 4) T2 := rfl
     rw [e7]
     clear e7
     refine hK.out _ _ (SX.one trivial (by kernel_rfl)) ?_
     clear hK K'
     (try simp only [Act.put, List.setIfInBounds_toArray, List.set_cons_zero, List.set_cons_succ])
     refine wpAnyX_done (by decide +kernel) ?_
     generalize set4 (w7.setCell ⟨q, 21, none⟩ (.slice (some ⟨gr, 0, none⟩) (mb + 1) c7)) gr (mb * 4) T2 = w9 at *
     go_wp2_with fail
     go_meet
     exact ⟨rfl, SW.out⟩
  case rest =>
   obtain ⟨e5, ⟨T2, g2, c2, G2, R1, R2, sm, ta2, hT2, hN2, hne, hz2, hgq2, hA2, hA3⟩⟩ := hcut
   subst e5
   rw [HM.out.2.1] at G2 R2
   obtain ⟨y0, y1, y2, y3⟩ := tb_cells G2.bx
   obtain ⟨d0, d1, d2, d3, f0, f1, f2, f3⟩ := z_cells G2.rz
   have FIN : Hid (TBx (set4 wc (w.heap.size + 1) 0 T1) (w.heap.size + 1) 0 T1 /\ Lw q (.slice aa m ca) (.slice ab mb cb) w.heap.size w (set4 wc (w.heap.size + 1) 0 T1) /\ (set4 wc (w.heap.size + 1) 0 T1).heap[q]? = some (.cells (hArr (updV (updV V 20 (.slice (some ⟨g1, 0, none⟩) (m + 1) c1)) 21 (.slice (some ⟨g2, 0, none⟩) (mb + 1) c2))) 38 (0, 0)) /\ TRo (set4 wc (w.heap.size + 1) 0 T1) (.slice (some ⟨g1, 0, none⟩) (m + 1) c1) (LA ++ [T1]) /\ TRo (set4 wc (w.heap.size + 1) 0 T1) (.slice (some ⟨g2, 0, none⟩) (mb + 1) c2) (LB ++ [T2]) /\ TAt (set4 wc (w.heap.size + 1) 0 T1) T1 /\ TAt (set4 wc (w.heap.size + 1) 0 T1) T2 /\ samV t T1 /\ samV T1 T2 /\ ((Value.slice aa m ca).ownBlock = some g1 ∨ w.heap.size <= g1) /\ ((Value.slice ab mb cb).ownBlock = some g2 ∨ w.heap.size <= g2) /\ g1 ≠ g2 /\ g1 ≠ q /\ g2 ≠ q /\ (∀ a ∈ adsL (kidsA T1), w.heap.size <= a.1 /\ a.1 ≠ g1 /\ a.1 ≠ g2) /\ ∀ a ∈ adsL (kidsA T2), w.heap.size <= a.1 /\ a.1 ≠ g1 /\ a.1 ≠ g2) := by
    have e : ∀ k, k ≠ w.heap.size + 1 -> (set4 wc (w.heap.size + 1) 0 T1).heap[k]? = wc.heap[k]? := fun k hk => set4_other _ _ _ _ _ hk
    have hs : wc.heap.size <= (set4 wc (w.heap.size + 1) 0 T1).heap.size := by rw [set4_size]; exact Nat.le_refl _
    have hqn := G2.qn
    refine ⟨set4_tbx T1 d0 d1 d2 d3 (lt_of_block G2.rz), G2.lv.trans ⟨rfl, rfl, rfl, hs, fun k hk _ _ _ => e k (by omega)⟩, (e q (by omega)).trans G2.hq, R1.kept fun j hj => ?_, R2.kept fun j hj => ?_, (G2.ow.kept (fun a ha => e _ (by have := (G2.ow.ty a ha).1; omega)) hs).ta, keep_at T2 0 0 ta2 fun a ha => ⟨Nat.lt_of_lt_of_le (kids_lt ta2 ha) hs, fun j _ => World.cell?_of_block (e a.1 (by have := hT2 a ha; omega))⟩, ST.out, sm, HC.out.2.2.2.1, hN2, fun eg => hne (by rw [eg]; rfl), HC.out.2.2.2.2.2.2.1, hgq2, fun a ha => ⟨by have := (G2.ow.ty a ha).1; omega, HC.out.2.2.2.2.2.2.2 a ha, hA2 a ha⟩, fun a ha => ⟨by have := hT2 a ha; omega, fun e => (hA3 a ha).2 (by rw [e]; rfl), (hA3 a ha).1⟩⟩
    ·simp [Value.ownBlock] at hj
     subst hj
     exact e _ HC.out.2.2.2.2.2.1
    ·simp [Value.ownBlock] at hj
     subst hj
     exact e _ hz2
   clear G2 R2 R1 hN2 hne hz2 hgq2 hA2 hA3 sm ta2 hT2 HC ST V21 V20 SZ
   go_wp2
   change bodyPost _ _ _ _ _ (set4 wc (w.heap.size + 1) 0 T1)
   generalize set4 wc (w.heap.size + 1) 0 T1 = w9 at *
   have x0 := FIN.out.1.c0
   have x1 := FIN.out.1.c1
   have x2 := FIN.out.1.c2
   have x3 := FIN.out.1.c3
   simp only [Nat.zero_add] at x1 x2 x3
   refine bodyPost_ret (v := T1.val) (by simp [results, Tryz.results5, go_sem, x0, x1, x2, x3]) rfl ?_
   exact ⟨T1, T2, g1, g2, c1, c2, rfl, FIN.out.2⟩
end Go.Proofs.YteciabdjkaackaaGreat
