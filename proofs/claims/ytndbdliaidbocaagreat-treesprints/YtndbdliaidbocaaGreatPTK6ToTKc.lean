import Derived.Test.YtndbdliaidbocaaGreatPTK5
import Derived.Test.YtndbdliaidbocaaGreatPZTK
namespace Go.Proofs.YtndbdliaidbocaaGreat
set_option linter.unusedVariables false
open Go.RowKit
abbrev zGr : Obj := .cells #[.slice none 0 0, .slice none 0 0, .int .i64 0, .slice none 0 0, .slice none 0 0] 26
theorem okT_tree : OkT 31 := by unfold OkT; decide
structure CkS (w0 : World) (g : GV) (t : TV) (w : World) : Prop where
 bel : Below w0.heap.size w0 w
 gb : w.heap[w0.heap.size]? = some (gBox g)
 tb : w.heap[w0.heap.size + 1]? = some (tBox t)
def RA1 (w0 : World) (g x : GV) (w : World) : Prop := ∃ V E n1 n2 n4, HG w0.heap.size w0 w (w0.heap.size + 2) V E n1 n2 n4 /\ n1 <= 10000000 /\ n2 <= 10000000 /\ n4 <= 10000000 /\ GX w x /\ SameG g x
structure RA2 (w0 : World) (g x : GV) (t U : TV) (bs : List Nat) (w : World) : Prop where
 ex : ∃ V E g1 c1 g2 c2 T2, HTr w (w0.heap.size + 2) V tyG E g1 c1 g2 c2 U T2 /\ StG E /\ (E 1).length <= 10000000 /\ (E 2).length <= 10000000 /\ (E 4).length <= 10000000 /\ ∀ b ∈ bs, b ≠ w0.heap.size + 2 /\ b ≠ g1 /\ b ≠ g2 /\ (∀ a ∈ adsL (kidsA U), a.1 ≠ b) /\ ∀ a ∈ adsL (kidsA T2), a.1 ≠ b
 gx : GX w x
 sg : SameG g x
 sm : samV t U
 ta : TAt w U
theorem RA2.later {w0 : World} {g x : GV} {t U : TV} {bs : List Nat} {w w' : World} (h : RA2 w0 g x t U bs w) (hb : Below w.heap.size w w') : RA2 w0 g x t U bs w' := by
 obtain ⟨V, E, g1, c1, g2, c2, T2, h1, h2⟩ := h.ex
 exact ⟨⟨V, E, g1, c1, g2, c2, T2, h1.later hb, h2⟩, h.gx.later hb, h.sg, h.sm, h.ta.later hb⟩
theorem RA2.alloc {w0 : World} {g x : GV} {t U : TV} {bs : List Nat} {w : World} (h : RA2 w0 g x t U bs w) (o : Obj) : RA2 w0 g x t U (w.heap.size :: bs) (w.alloc o) := by
 have hl := h.later (below_alloc w o)
 obtain ⟨V, E, g1, c1, g2, c2, T2, h1, h2, h3, h4, h5, h6⟩ := h.ex
 refine ⟨⟨V, E, g1, c1, g2, c2, T2, h1.later (below_alloc w o), h2, h3, h4, h5, fun b hb => ?_⟩, hl.gx, hl.sg, hl.sm, hl.ta⟩
 rcases List.mem_cons.1 hb with rfl | hb
 ·have q1 := lt_of_block h1.hq
  have q2 := h1.t1.lt g1 rfl
  have q3 := h1.t2.lt g2 rfl
  exact ⟨by omega, by omega, by omega, fun a ha => Nat.ne_of_lt (kids_lt h1.a1 ha), fun a ha => Nat.ne_of_lt (kids_lt h1.a2 ha)⟩
 ·exact h6 b hb
theorem RA2.set {w0 : World} {g x : GV} {t U : TV} {bs : List Nat} {w w' : World} {b : Nat} {C : Array Value} {tb : TypeId} (h : RA2 w0 g x t U bs w) (hm : b ∈ bs) (hb : w.heap[b]? = some (.cells C tb (0, 0))) (htb : tb = 26 ∨ tb = 31) (hs : w.heap.size <= w'.heap.size) (hk : ∀ k, k ≠ b -> w'.heap[k]? = w.heap[k]?) : RA2 w0 g x t U bs w' := by
 obtain ⟨V, E, g1, c1, g2, c2, T2, h1, h2, h3, h4, h5, h6⟩ := h.ex
 obtain ⟨b1, b2, b3, b4, b5⟩ := h6 b hm
 have kt : ∀ (k : Nat) (C' : Array Value) (ty : TypeId), w.heap[k]? = some (.cells C' ty (0, 0)) -> ty ≠ 26 -> ty ≠ 31 -> w'.heap[k]? = w.heap[k]? := fun k C' ty hC n1 n2 => hk k fun e => by
  subst e
  rw [hb] at hC
  simp only [Option.some.injEq, Obj.cells.injEq] at hC
  rcases htb with r | r
  ·exact n1 (hC.2.1.symm.trans r)
  ·exact n2 (hC.2.1.symm.trans r)
 have ent : ∀ κ, ∀ e ∈ E κ, e.t ≠ 26 /\ e.t ≠ 31 := fun κ e he => by
  by_cases k1 : κ = 1
  ·subst k1; rw [(h2.int e he).1]; decide
  by_cases k2 : κ = 2
  ·subst k2; rw [(h2.str e he).1]; decide
  by_cases k4 : κ = 4
  ·subst k4; rw [(h2.sym e he).1]; decide
  rw [h2.no κ k1 k2 k4] at he; cases he
 have tyn : ∀ i, tyG i ≠ 26 /\ tyG i ≠ 31 := fun i => by
  unfold tyG
  split
  ·decide
  ·split
   ·decide
   ·split
    ·decide
    ·split <;> decide
 have tat : ∀ {X : TV}, TAt w X -> (∀ a ∈ adsL (kidsA X), a.1 ≠ b) -> TAt w' X := fun {X} hX ha => keep_at X 0 0 hX fun a hma => ⟨Nat.lt_of_lt_of_le (kids_lt hX hma) hs, fun j _ => World.cell?_of_block (hk a.1 (ha a hma))⟩
 have hgx : GX w' x := by
  have hx := h.gx
  refine ⟨?_, ?_, row_kept hx.p fun k C _ hc => kt k C _ hc (by decide) (by decide), fun p hp => ?_, row_kept hx.l fun k C _ hc => kt k C _ hc (by decide) (by decide), fun p hp => ?_⟩
  ·obtain ⟨b, e, zs, z1, z2⟩ := hx.t; exact ⟨b, e, zs, (kt _ _ _ z1 (by decide) (by decide)).trans z1, z2⟩
  ·obtain ⟨b, e, zs, z1, z2⟩ := hx.n; exact ⟨b, e, zs, (kt _ _ _ z1 (by decide) (by decide)).trans z1, z2⟩
  ·obtain ⟨b, e, zs, z1, z2⟩ := hx.pe p hp; exact ⟨b, e, zs, (kt _ _ _ z1 (by decide) (by decide)).trans z1, z2⟩
  ·obtain ⟨b, e, zs, z1, z2⟩ := hx.le p hp; exact ⟨b, e, zs, (kt _ _ _ z1 (by decide) (by decide)).trans z1, z2⟩
 refine ⟨⟨V, E, g1, c1, g2, c2, T2, ⟨(hk _ (Ne.symm b1)).trans h1.hq, fun i => row_kept (h1.row i) fun k C _ hC => kt k C _ hC (tyn i).1 (tyn i).2, fun κ e he => (h1.at_ κ e he).keptBy fun k C hC => kt k C _ hC (ent κ e he).1 (ent κ e he).2, h1.t1.kept fun j hj => ?_, h1.t2.kept fun j hj => ?_, tat h1.a1 b4, tat h1.a2 b5, h1.sm, h1.sz⟩, h2, h3, h4, h5, h6⟩, hgx, h.sg, h.sm, tat h.ta b4⟩
 ·simp [Value.ownBlock] at hj
  subst hj
  exact hk _ (Ne.symm b2)
 ·simp [Value.ownBlock] at hj
  subst hj
  exact hk _ (Ne.symm b3)
theorem ck_gram {w0 : World} {g : GV} {t : TV} (hg : GAt 1048576 w0 g) (w : World) (hS : CkS w0 g t w) (h0 : HG w0.heap.size w0 w (w0.heap.size + 2) (fun _ => hNil) (fun _ => []) 0 0 0) :
  Calls Tryz.prog 4 #[.pointer (some ⟨w0.heap.size + 2, 0, none⟩), g.val] w fun e w' => ∃ x : GV, e = .returned x.val /\ CkS w0 g t w' /\ RA1 w0 g x w' /\ Oth w w' := by
 refine (hg_gram h0 (by omega) (by omega) (by omega) g hg.fine (fun wr hb => (hg.mono (by omega)).later (hS.bel.trans hb))).mono ?_
 rintro e w' ⟨x, rfl, hs, hx, ho⟩
 obtain ⟨V, E, k1⟩ := ho.ex
 refine ⟨x, rfl, ⟨hS.bel.trans ho.bel, (ho.oth.blk _ _ _ hS.gb okT_gram).trans hS.gb, (ho.oth.blk _ _ _ hS.tb okT_tree).trans hS.tb⟩, ⟨V, E, _, _, _, k1, ?_, ?_, ?_, hx, hs⟩, ho.oth⟩
 ·have := hg.ll; omega
 ·omega
 ·have := hg.pl; omega
theorem ck_tree {w0 : World} {g x : GV} {t : TV} (ht : TAt w0 t) (hsz : szT t <= 100000000) (w : World) (hCk : CkS w0 g t w) (h1 : RA1 w0 g x w) :
  Calls Tryz.prog 5 #[.pointer (some ⟨w0.heap.size + 2, 0, none⟩), t.val] w fun e w' => ∃ U : TV, e = .returned U.val /\ CkS w0 g t w' /\ (∀ bs, (∀ b ∈ bs, b < w.heap.size /\ b ≠ w0.heap.size + 2) -> RA2 w0 g x t U bs w') /\ Lv (w0.heap.size + 2) w.heap.size w w' := by
 obtain ⟨V, E, n1, n2, n4, hG, l1, l2, l4, hx, hs⟩ := h1
 have e10 : E 10 = [] := hG.st.no 10 (by decide) (by decide) (by decide)
 have n20 : V 20 = hNil := hG.inv.nl 20 (by unfold hS; simp [e10])
 have n21 : V 21 = hNil := hG.inv.nl 21 (by unfold hS; simp [e10])
 refine (tree_W (w0.heap.size + 2) V w hG.inv.hq n20 n21 t (ht.later hCk.bel) hsz).mono ?_
 rintro e w' ⟨U, T2, g1, g2, c1, c2, rfl, lv, hq, t1, t2, a1, a2, sm, sm2, hg1, hg2, ad1, ad2⟩
 have hB := lt_of_block hCk.gb
 have hB1 := lt_of_block hCk.tb
 have kt : ∀ (k : Nat) (C' : Array Value) (ty : TypeId), w.heap[k]? = some (.cells C' ty (0, 0)) -> ty ≠ 43 -> w'.heap[k]? = w.heap[k]? := fun k C' ty hC n1 => lv.blk k (lt_of_block hC) fun e => by
  subst e
  rw [hG.inv.hq] at hC
  simp only [Option.some.injEq, Obj.cells.injEq] at hC
  exact n1 hC.2.1.symm
 have hgx : GX w' x := by
  refine ⟨?_, ?_, row_kept hx.p fun k C _ hc => kt k C _ hc (by decide), fun p hp => ?_, row_kept hx.l fun k C _ hc => kt k C _ hc (by decide), fun p hp => ?_⟩
  ·obtain ⟨b, e, zs, z1, z2⟩ := hx.t; exact ⟨b, e, zs, (kt _ _ _ z1 (by decide)).trans z1, z2⟩
  ·obtain ⟨b, e, zs, z1, z2⟩ := hx.n; exact ⟨b, e, zs, (kt _ _ _ z1 (by decide)).trans z1, z2⟩
  ·obtain ⟨b, e, zs, z1, z2⟩ := hx.pe p hp; exact ⟨b, e, zs, (kt _ _ _ z1 (by decide)).trans z1, z2⟩
  ·obtain ⟨b, e, zs, z1, z2⟩ := hx.le p hp; exact ⟨b, e, zs, (kt _ _ _ z1 (by decide)).trans z1, z2⟩
 refine ⟨U, rfl, ⟨hCk.bel.trans ⟨lv.os, lv.tape, lv.output, lv.size, fun k hk => lv.blk k (by omega) (by omega)⟩, (lv.blk _ hB (by omega)).trans hCk.gb, (lv.blk _ hB1 (by omega)).trans hCk.tb⟩, fun bs hbs => ⟨⟨V, E, g1, c1, g2, c2, T2, ⟨hq, fun i => row_kept (hG.inv.row i) fun k C _ hC => kt k C _ hC (Ne.symm (tyG_q i)), fun κ e he => (hG.inv.at_ κ e he).keptBy fun k C hC => kt k C _ hC (hG.inv.te κ e he).1, t1, t2, a1, a2, sm2, by rw [<- samV_size _ _ sm]; exact hsz⟩, hG.st, by rw [hG.l1]; exact l1, by rw [hG.l2]; exact l2, by rw [hG.l4]; exact l4, fun b hb => ?_⟩, hgx, hs, sm, a1⟩, lv⟩
 obtain ⟨q1, q2⟩ := hbs b hb
 exact ⟨q2, by omega, by omega, fun a ha => by have := ad1 a ha; omega, fun a ha => by have := ad2 a ha; omega⟩
theorem RA2.sub {w0 : World} {g x : GV} {t U : TV} {bs bs' : List Nat} {w : World} (h : RA2 w0 g x t U bs w) (hs : ∀ b ∈ bs', b ∈ bs) : RA2 w0 g x t U bs' w := by
 obtain ⟨V, E, g1, c1, g2, c2, T2, h1, h2, h3, h4, h5, h6⟩ := h.ex
 exact ⟨⟨V, E, g1, c1, g2, c2, T2, h1, h2, h3, h4, h5, fun b hb => h6 b (hs b hb)⟩, h.gx, h.sg, h.sm, h.ta⟩
structure CkJ (A : Nat) (w0 : World) (g : GV) (t : TV) (x : GV) (U : TV) (b6 b7 : Option Nat) (w : World) : Prop where
 s : CkS w0 g t w
 r0 : A = 0 -> HG w0.heap.size w0 w (w0.heap.size + 2) (fun _ => hNil) (fun _ => []) 0 0 0
 r1 : A = 1 -> RA1 w0 g x w
 r2 : A = 2 -> RA2 w0 g x t U (b6.toList ++ b7.toList) w
 x6 : ∀ b, b6 = some b -> w.heap[b]? = some zGr /\ w0.heap.size + 2 < b
 x7 : ∀ b, b7 = some b -> w.heap[b]? = some zTree /\ w0.heap.size + 2 < b
 nz : w0.heap.size + 2 < w.heap.size
theorem CkS.later {w0 : World} {g : GV} {t : TV} {w w' : World} (h : CkS w0 g t w) (hb : Below w.heap.size w w') : CkS w0 g t w' :=
 ⟨h.bel.trans (hb.mono (Nat.le_of_lt (lt_of_block h.gb))), (hb.block _ (lt_of_block h.gb)).trans h.gb, (hb.block _ (lt_of_block h.tb)).trans h.tb⟩
theorem RA1.later {w0 : World} {g x : GV} {w w' : World} (h : RA1 w0 g x w) (hb : Below w.heap.size w w') : RA1 w0 g x w' := by
 obtain ⟨V, E, n1, n2, n4, h1, h2, h3, h4, h5, h6⟩ := h
 exact ⟨V, E, n1, n2, n4, h1.later hb, h2, h3, h4, h5.later hb, h6⟩
theorem CkJ.later {A : Nat} {w0 : World} {g : GV} {t : TV} {x : GV} {U : TV} {b6 b7 : Option Nat} {w w' : World} (h : CkJ A w0 g t x U b6 b7 w) (hb : Below w.heap.size w w') : CkJ A w0 g t x U b6 b7 w' :=
 ⟨h.s.later hb, fun e => (h.r0 e).later hb, fun e => (h.r1 e).later hb, fun e => (h.r2 e).later hb, fun b e => ⟨(hb.block _ (lt_of_block (h.x6 b e).1)).trans (h.x6 b e).1, (h.x6 b e).2⟩, fun b e => ⟨(hb.block _ (lt_of_block (h.x7 b e).1)).trans (h.x7 b e).1, (h.x7 b e).2⟩, Nat.lt_of_lt_of_le h.nz hb.size⟩
theorem CkJ.a6 {A : Nat} {w0 : World} {g : GV} {t : TV} {x : GV} {U : TV} {b7 : Option Nat} {w : World} (h : CkJ A w0 g t x U none b7 w) : CkJ A w0 g t x U (some w.heap.size) b7 (w.alloc zGr) := by
 have hl := h.later (below_alloc w zGr)
 refine ⟨hl.s, hl.r0, hl.r1, fun e => ((h.r2 e).alloc zGr).sub fun b hb => ?_, fun b e => ?_, hl.x7, hl.nz⟩
 ·simpa using hb
 ·cases e
  exact ⟨heap_alloc_new _ _, h.nz⟩
theorem CkJ.a7 {A : Nat} {w0 : World} {g : GV} {t : TV} {x : GV} {U : TV} {b6 : Option Nat} {w : World} (h : CkJ A w0 g t x U b6 none w) : CkJ A w0 g t x U b6 (some w.heap.size) (w.alloc zTree) := by
 have hl := h.later (below_alloc w zTree)
 refine ⟨hl.s, hl.r0, hl.r1, fun e => ((h.r2 e).alloc zTree).sub fun b hb => ?_, hl.x6, fun b e => ?_, hl.nz⟩
 ·simp only [Option.toList, List.mem_append, List.mem_cons, List.not_mem_nil, or_false] at hb ⊢
  rcases hb with q | q
  ·exact .inr q
  ·exact .inl q
 ·cases e
  exact ⟨heap_alloc_new _ _, h.nz⟩
theorem CkJ.gram {w0 : World} {g : GV} {t : TV} {x0 : GV} {U : TV} {b6 b7 : Option Nat} {w : World} (hg : GAt 1048576 w0 g) (h : CkJ 0 w0 g t x0 U b6 b7 w) :
  Calls Tryz.prog 4 #[.pointer (some ⟨w0.heap.size + 2, 0, none⟩), g.val] w fun e w' => ∃ x : GV, e = .returned x.val /\ CkJ 1 w0 g t x U b6 b7 w' :=
 (ck_gram hg w h.s (h.r0 rfl)).mono fun e w' ⟨x, e1, e2, e3, e4⟩ => ⟨x, e1, e2, fun q => (by cases q), fun _ => e3, fun q => (by cases q), fun b q => ⟨(e4.blk _ _ _ (h.x6 b q).1 okT_gram).trans (h.x6 b q).1, (h.x6 b q).2⟩, fun b q => ⟨(e4.blk _ _ _ (h.x7 b q).1 okT_tree).trans (h.x7 b q).1, (h.x7 b q).2⟩, Nat.lt_of_lt_of_le h.nz e4.size⟩
theorem CkJ.tree {w0 : World} {g : GV} {t : TV} {x : GV} {U0 : TV} {b6 b7 : Option Nat} {w : World} (ht : TAt w0 t) (hsz : szT t <= 100000000) (h : CkJ 1 w0 g t x U0 b6 b7 w) :
  Calls Tryz.prog 5 #[.pointer (some ⟨w0.heap.size + 2, 0, none⟩), t.val] w fun e w' => ∃ U : TV, e = .returned U.val /\ CkJ 2 w0 g t x U b6 b7 w' := by
 refine (ck_tree ht hsz w h.s (h.r1 rfl)).mono fun e w' ⟨U, e1, e2, e3, e4⟩ => ⟨U, e1, e2, fun q => (by cases q), fun q => (by cases q), fun _ => e3 _ fun b hb => ?_, fun b q => ?_, fun b q => ?_, Nat.lt_of_lt_of_le h.nz e4.size⟩
 ·rcases List.mem_append.1 hb with q | q
  ·have := h.x6 b (by simpa using q)
   exact ⟨lt_of_block this.1, by omega⟩
  ·have := h.x7 b (by simpa using q)
   exact ⟨lt_of_block this.1, by omega⟩
 ·have := h.x6 b q
  exact ⟨(e4.blk _ (lt_of_block this.1) (by omega)).trans this.1, this.2⟩
 ·have := h.x7 b q
  exact ⟨(e4.blk _ (lt_of_block this.1) (by omega)).trans this.1, this.2⟩
structure CkE (w0 : World) (g : GV) (t : TV) (b6 b7 : Nat) (x : GV) (U : TV) (w : World) : Prop where
 s : CkS w0 g t w
 r : RA2 w0 g x t U [] w
 g6 : w.heap[b6]? = some (gBox x)
 t7 : w.heap[b7]? = some (tBox U)
theorem CkE.later {w0 : World} {g : GV} {t : TV} {b6 b7 : Nat} {x : GV} {U : TV} {w w' : World} (h : CkE w0 g t b6 b7 x U w) (hb : Below w.heap.size w w') : CkE w0 g t b6 b7 x U w' :=
 ⟨h.s.later hb, h.r.later hb, (hb.block _ (lt_of_block h.g6)).trans h.g6, (hb.block _ (lt_of_block h.t7)).trans h.t7⟩
abbrev set5G (w : World) (b : Nat) (x : GV) : World := w.setCells b 0 [.slice x.ta x.ts.length x.tc, .slice x.na x.ns.length x.nc, .int .i64 x.start, .slice x.pa x.ps.length x.pc, .slice x.la x.ls.length x.lc]
theorem CkJ.fin {w0 : World} {g : GV} {t : TV} {x : GV} {U : TV} {b6 b7 : Nat} {w : World} (h : CkJ 2 w0 g t x U (some b6) (some b7) w) : CkE w0 g t b6 b7 x U (set4 (set5G w b6 x) b7 0 U) /\ (set5G w b6 x).heap[b7]? = some zTree /\ CkS w0 g t (set5G w b6 x) := by
 obtain ⟨h6, l6⟩ := h.x6 b6 rfl
 obtain ⟨h7, l7⟩ := h.x7 b7 rfl
 have hne : b7 ≠ b6 := fun e => by
  subst e
  rw [h6] at h7
  simp at h7
 obtain ⟨k1, k2⟩ := setCs_keep (n := w0.heap.size) (b := b6) (by omega) [.slice x.ta x.ts.length x.tc, .slice x.na x.ns.length x.nc, .int .i64 x.start, .slice x.pa x.ps.length x.pc, .slice x.la x.ls.length x.lc] 0 w
 have z7 : (set5G w b6 x).heap[b7]? = some zTree := (k2 b7 hne).trans h7
 have r1 : RA2 w0 g x t U ((some b6).toList ++ (some b7).toList) (set5G w b6 x) := (h.r2 rfl).set (b := b6) (by simp) h6 (.inl rfl) k1.size k2
 have r2 : RA2 w0 g x t U ((some b6).toList ++ (some b7).toList) (set4 (set5G w b6 x) b7 0 U) := r1.set (b := b7) (by simp) z7 (.inr rfl) (by rw [set4_size]; exact Nat.le_refl _) (fun k hk => set4_other _ _ _ _ _ hk)
 have e : ∀ k, k ≠ b6 -> k ≠ b7 -> (set4 (set5G w b6 x) b7 0 U).heap[k]? = w.heap[k]? := fun k h1 h2 => (set4_other _ _ _ _ _ h2).trans (k2 k h1)
 refine ⟨⟨⟨set4_below (h.s.bel.trans k1) 0 U (by omega), (e _ (by omega) (by omega)).trans h.s.gb, (e _ (by omega) (by omega)).trans h.s.tb⟩, r2.sub fun b hb => (by cases hb), (set4_other _ _ _ _ _ (Ne.symm hne)).trans (setCs_five h6), setCs_four (v0 := .int .i64 U.prod) (v1 := .int .i64 U.kind) (v2 := .string U.tx) (v3 := .slice U.ka U.kids.length U.kc) z7⟩, z7, h.s.bel.trans k1, (k2 _ (by omega)).trans h.s.gb, (k2 _ (by omega)).trans h.s.tb⟩
set_option linter.unusedSimpArgs false in
theorem wpAnyX_mix {P : Program} {ops : Array Oper} {Q : Exit -> Act -> World -> Prop} {md : Region.Mode} {S : Array Bool -> World -> Prop} {β γ : Type} {o1 o3 o4 o5 : Oper} {d1 d3 d4 d5 : Nat} {L : Array Bool} {a : Act} {w : World} {fuel : Nat} (j1 j3 j4 j5 : Nat) (h1 : ops.toList[j1]? = some o1) (h3 : ops.toList[j3]? = some o3) (h4 : ops.toList[j4]? = some o4) (h5 : ops.toList[j5]? = some o5)
  (e1 : o1.dst = some d1) (e3 : o3.dst = some d3) (e4 : o4.dst = some d4) (e5 : o5.dst = some d5) (hj : j1 ≠ j3 /\ j1 ≠ j4 /\ j3 ≠ j4 /\ j1 ≠ j5 /\ j3 ≠ j5 /\ j4 ≠ j5) (hd : d1 ≠ d3 /\ d1 ≠ d4 /\ d3 ≠ d4 /\ d1 ≠ d5 /\ d3 ≠ d5 /\ d4 ≠ d5)
  (r0 : Region.ready md ops L = [j1, j4, j5])
  (r5 : Region.ready md ops (L.setIfInBounds j5 true) = [j1, j4])
  (r4 : Region.ready md ops (L.setIfInBounds j4 true) = [j1, j5])
  (r45 : Region.ready md ops ((L.setIfInBounds j4 true).setIfInBounds j5 true) = [j1])
  (r1 : Region.ready md ops (L.setIfInBounds j1 true) = [j3, j4, j5])
  (r15 : Region.ready md ops ((L.setIfInBounds j1 true).setIfInBounds j5 true) = [j3, j4])
  (r14 : Region.ready md ops ((L.setIfInBounds j1 true).setIfInBounds j4 true) = [j3, j5])
  (r145 : Region.ready md ops (((L.setIfInBounds j1 true).setIfInBounds j4 true).setIfInBounds j5 true) = [j3])
  (r13 : Region.ready md ops ((L.setIfInBounds j1 true).setIfInBounds j3 true) = [j4, j5])
  (r135 : Region.ready md ops (((L.setIfInBounds j1 true).setIfInBounds j3 true).setIfInBounds j5 true) = [j4])
  (r134 : Region.ready md ops (((L.setIfInBounds j1 true).setIfInBounds j3 true).setIfInBounds j4 true) = [j5])
  {J : Nat -> β -> γ -> Option Nat -> Option Nat -> World -> Prop} (hS : ∀ A x U b6 b7 w' L', J A x U b6 b7 w' -> S L' w') {f1 : β -> Value} {f3 : γ -> Value} {f4 f5 : Nat -> Value}
  {At : Act -> Prop} (hAt : At a) (a1 : ∀ a v, At a -> At (a.put (some d1) v)) (a3 : ∀ a v, At a -> At (a.put (some d3) v)) (a4 : ∀ a v, At a -> At (a.put (some d4) v)) (a5 : ∀ a v, At a -> At (a.put (some d5) v))
  (s1 : ∀ (a : Act) (w : World) (K : Act -> World -> Prop) x U b6 b7, At a -> J 0 x U b6 b7 w -> (∀ x' w', J 1 x' U b6 b7 w' -> K (a.put o1.dst (f1 x')) w') -> if Region.wanted o1 (yielded ops a.tmps) = true then Oper.wp P o1 a w K Q else K (a.put o1.dst undef) w)
  (s3 : ∀ (a : Act) (w : World) (K : Act -> World -> Prop) x U b6 b7, At a -> J 1 x U b6 b7 w -> (∀ U' w', J 2 x U' b6 b7 w' -> K (a.put o3.dst (f3 U')) w') -> if Region.wanted o3 (yielded ops a.tmps) = true then Oper.wp P o3 a w K Q else K (a.put o3.dst undef) w)
  (s4 : ∀ (a : Act) (w : World) (K : Act -> World -> Prop) A x U b7, At a -> J A x U none b7 w -> (∀ b w', J A x U (some b) b7 w' -> K (a.put o4.dst (f4 b)) w') -> if Region.wanted o4 (yielded ops a.tmps) = true then Oper.wp P o4 a w K Q else K (a.put o4.dst undef) w)
  (s5 : ∀ (a : Act) (w : World) (K : Act -> World -> Prop) A x U b6, At a -> J A x U b6 none w -> (∀ b w', J A x U b6 (some b) w' -> K (a.put o5.dst (f5 b)) w') -> if Region.wanted o5 (yielded ops a.tmps) = true then Oper.wp P o5 a w K Q else K (a.put o5.dst undef) w)
  (x0 : β) (U0 : γ) (hw : J 0 x0 U0 none none w)
  (hfin : ∀ x U b6 b7 w', J 2 x U (some b6) (some b7) w' -> wpAnyX P md ops Q S fuel ((((L.setIfInBounds j1 true).setIfInBounds j3 true).setIfInBounds j4 true).setIfInBounds j5 true) ((((a.put (some d1) (f1 x)).put (some d3) (f3 U)).put (some d4) (f4 b6)).put (some d5) (f5 b7)) w') :
  wpAnyX P md ops Q S (fuel + 1 + 1 + 1 + 1) L a w := by
 have sc : ∀ {i j : Nat}, i ≠ j -> ∀ (L : Array Bool), (L.setIfInBounds j true).setIfInBounds i true = (L.setIfInBounds i true).setIfInBounds j true := fun h L => Array.setIfInBounds_comm _ _ (Ne.symm h)
 have pc : ∀ {d e : Nat}, d ≠ e -> ∀ (a : Act) (u v : Value), (a.put (some e) u).put (some d) v = (a.put (some d) v).put (some e) u := fun h a u v => by
  simp only [Act.put, Act.mk.injEq, and_true]
  exact Array.setIfInBounds_comm _ _ (Ne.symm h)
 obtain ⟨q13, q14, q34, q15, q35, q45⟩ := hj
 obtain ⟨t13, t14, t34, t15, t35, t45⟩ := hd
 have c31 := sc q13
 have p31 := pc t13
 have c41 := sc q14
 have p41 := pc t14
 have c43 := sc q34
 have p43 := pc t34
 have c51 := sc q15
 have p51 := pc t15
 have c53 := sc q35
 have p53 := pc t35
 have c54 := sc q45
 have p54 := pc t45
 refine pickT r0 (by simp) (fun j hj => ?_)
 simp only [List.mem_cons, List.not_mem_nil, or_false] at hj
 rcases hj with hj | hj | hj <;> rw [hj]
 ·refine ⟨o1, h1, fun K' hK => s1 _ w K' x0 U0 none none hAt hw fun xv3 wv1 hv2 => hK.out _ _ (hS _ _ _ _ _ _ _ hv2) ?_⟩
  rw [e1]
  refine pickT r1 (by simp) (fun j hj => ?_)
  simp only [List.mem_cons, List.not_mem_nil, or_false] at hj
  rcases hj with hj | hj | hj <;> rw [hj]
  ·refine ⟨o3, h3, fun K' hK => s3 _ wv1 K' xv3 U0 none none (a1 _ _ hAt) hv2 fun Uv6 wv4 hv5 => hK.out _ _ (hS _ _ _ _ _ _ _ hv5) ?_⟩
   rw [e3]
   (try simp only [c31, c41, c43, c51, c53, c54])
   refine pickT r13 (by simp) (fun j hj => ?_)
   simp only [List.mem_cons, List.not_mem_nil, or_false] at hj
   rcases hj with hj | hj <;> rw [hj]
   ·refine ⟨o4, h4, fun K' hK => s4 _ wv4 K' 2 xv3 Uv6 none (a3 _ _ (a1 _ _ hAt)) hv5 fun bv9 wv7 hv8 => hK.out _ _ (hS _ _ _ _ _ _ _ hv8) ?_⟩
    rw [e4]
    (try simp only [c31, c41, c43, c51, c53, c54])
    refine pickT r134 (by simp) (fun j hj => ?_)
    simp only [List.mem_cons, List.not_mem_nil, or_false] at hj
    rw [hj]
    refine ⟨o5, h5, fun K' hK => s5 _ wv7 K' 2 xv3 Uv6 (some bv9) (a4 _ _ (a3 _ _ (a1 _ _ hAt))) hv8 fun bv12 wv10 hv11 => hK.out _ _ (hS _ _ _ _ _ _ _ hv11) ?_⟩
    rw [e5]
    have g_ := hfin xv3 Uv6 bv9 bv12 wv10 hv11
    (try simp only [c31, c41, c43, c51, c53, c54, p31, p41, p43, p51, p53, p54])
    exact g_
   ·refine ⟨o5, h5, fun K' hK => s5 _ wv4 K' 2 xv3 Uv6 none (a3 _ _ (a1 _ _ hAt)) hv5 fun bv15 wv13 hv14 => hK.out _ _ (hS _ _ _ _ _ _ _ hv14) ?_⟩
    rw [e5]
    (try simp only [c31, c41, c43, c51, c53, c54])
    refine pickT r135 (by simp) (fun j hj => ?_)
    simp only [List.mem_cons, List.not_mem_nil, or_false] at hj
    rw [hj]
    refine ⟨o4, h4, fun K' hK => s4 _ wv13 K' 2 xv3 Uv6 (some bv15) (a5 _ _ (a3 _ _ (a1 _ _ hAt))) hv14 fun bv18 wv16 hv17 => hK.out _ _ (hS _ _ _ _ _ _ _ hv17) ?_⟩
    rw [e4]
    have g_ := hfin xv3 Uv6 bv18 bv15 wv16 hv17
    (try simp only [c31, c41, c43, c51, c53, c54, p31, p41, p43, p51, p53, p54])
    exact g_
  ·refine ⟨o4, h4, fun K' hK => s4 _ wv1 K' 1 xv3 U0 none (a1 _ _ hAt) hv2 fun bv21 wv19 hv20 => hK.out _ _ (hS _ _ _ _ _ _ _ hv20) ?_⟩
   rw [e4]
   (try simp only [c31, c41, c43, c51, c53, c54])
   refine pickT r14 (by simp) (fun j hj => ?_)
   simp only [List.mem_cons, List.not_mem_nil, or_false] at hj
   rcases hj with hj | hj <;> rw [hj]
   ·refine ⟨o3, h3, fun K' hK => s3 _ wv19 K' xv3 U0 (some bv21) none (a4 _ _ (a1 _ _ hAt)) hv20 fun Uv24 wv22 hv23 => hK.out _ _ (hS _ _ _ _ _ _ _ hv23) ?_⟩
    rw [e3]
    (try simp only [c31, c41, c43, c51, c53, c54])
    refine pickT r134 (by simp) (fun j hj => ?_)
    simp only [List.mem_cons, List.not_mem_nil, or_false] at hj
    rw [hj]
    refine ⟨o5, h5, fun K' hK => s5 _ wv22 K' 2 xv3 Uv24 (some bv21) (a3 _ _ (a4 _ _ (a1 _ _ hAt))) hv23 fun bv27 wv25 hv26 => hK.out _ _ (hS _ _ _ _ _ _ _ hv26) ?_⟩
    rw [e5]
    have g_ := hfin xv3 Uv24 bv21 bv27 wv25 hv26
    (try simp only [c31, c41, c43, c51, c53, c54, p31, p41, p43, p51, p53, p54])
    exact g_
   ·refine ⟨o5, h5, fun K' hK => s5 _ wv19 K' 1 xv3 U0 (some bv21) (a4 _ _ (a1 _ _ hAt)) hv20 fun bv30 wv28 hv29 => hK.out _ _ (hS _ _ _ _ _ _ _ hv29) ?_⟩
    rw [e5]
    (try simp only [c31, c41, c43, c51, c53, c54])
    refine pickT r145 (by simp) (fun j hj => ?_)
    simp only [List.mem_cons, List.not_mem_nil, or_false] at hj
    rw [hj]
    refine ⟨o3, h3, fun K' hK => s3 _ wv28 K' xv3 U0 (some bv21) (some bv30) (a5 _ _ (a4 _ _ (a1 _ _ hAt))) hv29 fun Uv33 wv31 hv32 => hK.out _ _ (hS _ _ _ _ _ _ _ hv32) ?_⟩
    rw [e3]
    have g_ := hfin xv3 Uv33 bv21 bv30 wv31 hv32
    (try simp only [c31, c41, c43, c51, c53, c54, p31, p41, p43, p51, p53, p54])
    exact g_
  ·refine ⟨o5, h5, fun K' hK => s5 _ wv1 K' 1 xv3 U0 none (a1 _ _ hAt) hv2 fun bv36 wv34 hv35 => hK.out _ _ (hS _ _ _ _ _ _ _ hv35) ?_⟩
   rw [e5]
   (try simp only [c31, c41, c43, c51, c53, c54])
   refine pickT r15 (by simp) (fun j hj => ?_)
   simp only [List.mem_cons, List.not_mem_nil, or_false] at hj
   rcases hj with hj | hj <;> rw [hj]
   ·refine ⟨o3, h3, fun K' hK => s3 _ wv34 K' xv3 U0 none (some bv36) (a5 _ _ (a1 _ _ hAt)) hv35 fun Uv39 wv37 hv38 => hK.out _ _ (hS _ _ _ _ _ _ _ hv38) ?_⟩
    rw [e3]
    (try simp only [c31, c41, c43, c51, c53, c54])
    refine pickT r135 (by simp) (fun j hj => ?_)
    simp only [List.mem_cons, List.not_mem_nil, or_false] at hj
    rw [hj]
    refine ⟨o4, h4, fun K' hK => s4 _ wv37 K' 2 xv3 Uv39 (some bv36) (a3 _ _ (a5 _ _ (a1 _ _ hAt))) hv38 fun bv42 wv40 hv41 => hK.out _ _ (hS _ _ _ _ _ _ _ hv41) ?_⟩
    rw [e4]
    have g_ := hfin xv3 Uv39 bv42 bv36 wv40 hv41
    (try simp only [c31, c41, c43, c51, c53, c54, p31, p41, p43, p51, p53, p54])
    exact g_
   ·refine ⟨o4, h4, fun K' hK => s4 _ wv34 K' 1 xv3 U0 (some bv36) (a5 _ _ (a1 _ _ hAt)) hv35 fun bv45 wv43 hv44 => hK.out _ _ (hS _ _ _ _ _ _ _ hv44) ?_⟩
    rw [e4]
    (try simp only [c31, c41, c43, c51, c53, c54])
    refine pickT r145 (by simp) (fun j hj => ?_)
    simp only [List.mem_cons, List.not_mem_nil, or_false] at hj
    rw [hj]
    refine ⟨o3, h3, fun K' hK => s3 _ wv43 K' xv3 U0 (some bv45) (some bv36) (a4 _ _ (a5 _ _ (a1 _ _ hAt))) hv44 fun Uv48 wv46 hv47 => hK.out _ _ (hS _ _ _ _ _ _ _ hv47) ?_⟩
    rw [e3]
    have g_ := hfin xv3 Uv48 bv45 bv36 wv46 hv47
    (try simp only [c31, c41, c43, c51, c53, c54, p31, p41, p43, p51, p53, p54])
    exact g_
 ·refine ⟨o4, h4, fun K' hK => s4 _ w K' 0 x0 U0 none hAt hw fun bv51 wv49 hv50 => hK.out _ _ (hS _ _ _ _ _ _ _ hv50) ?_⟩
  rw [e4]
  refine pickT r4 (by simp) (fun j hj => ?_)
  simp only [List.mem_cons, List.not_mem_nil, or_false] at hj
  rcases hj with hj | hj <;> rw [hj]
  ·refine ⟨o1, h1, fun K' hK => s1 _ wv49 K' x0 U0 (some bv51) none (a4 _ _ hAt) hv50 fun xv54 wv52 hv53 => hK.out _ _ (hS _ _ _ _ _ _ _ hv53) ?_⟩
   rw [e1]
   (try simp only [c31, c41, c43, c51, c53, c54])
   refine pickT r14 (by simp) (fun j hj => ?_)
   simp only [List.mem_cons, List.not_mem_nil, or_false] at hj
   rcases hj with hj | hj <;> rw [hj]
   ·refine ⟨o3, h3, fun K' hK => s3 _ wv52 K' xv54 U0 (some bv51) none (a1 _ _ (a4 _ _ hAt)) hv53 fun Uv57 wv55 hv56 => hK.out _ _ (hS _ _ _ _ _ _ _ hv56) ?_⟩
    rw [e3]
    (try simp only [c31, c41, c43, c51, c53, c54])
    refine pickT r134 (by simp) (fun j hj => ?_)
    simp only [List.mem_cons, List.not_mem_nil, or_false] at hj
    rw [hj]
    refine ⟨o5, h5, fun K' hK => s5 _ wv55 K' 2 xv54 Uv57 (some bv51) (a3 _ _ (a1 _ _ (a4 _ _ hAt))) hv56 fun bv60 wv58 hv59 => hK.out _ _ (hS _ _ _ _ _ _ _ hv59) ?_⟩
    rw [e5]
    have g_ := hfin xv54 Uv57 bv51 bv60 wv58 hv59
    (try simp only [c31, c41, c43, c51, c53, c54, p31, p41, p43, p51, p53, p54])
    exact g_
   ·refine ⟨o5, h5, fun K' hK => s5 _ wv52 K' 1 xv54 U0 (some bv51) (a1 _ _ (a4 _ _ hAt)) hv53 fun bv63 wv61 hv62 => hK.out _ _ (hS _ _ _ _ _ _ _ hv62) ?_⟩
    rw [e5]
    (try simp only [c31, c41, c43, c51, c53, c54])
    refine pickT r145 (by simp) (fun j hj => ?_)
    simp only [List.mem_cons, List.not_mem_nil, or_false] at hj
    rw [hj]
    refine ⟨o3, h3, fun K' hK => s3 _ wv61 K' xv54 U0 (some bv51) (some bv63) (a5 _ _ (a1 _ _ (a4 _ _ hAt))) hv62 fun Uv66 wv64 hv65 => hK.out _ _ (hS _ _ _ _ _ _ _ hv65) ?_⟩
    rw [e3]
    have g_ := hfin xv54 Uv66 bv51 bv63 wv64 hv65
    (try simp only [c31, c41, c43, c51, c53, c54, p31, p41, p43, p51, p53, p54])
    exact g_
  ·refine ⟨o5, h5, fun K' hK => s5 _ wv49 K' 0 x0 U0 (some bv51) (a4 _ _ hAt) hv50 fun bv69 wv67 hv68 => hK.out _ _ (hS _ _ _ _ _ _ _ hv68) ?_⟩
   rw [e5]
   (try simp only [c31, c41, c43, c51, c53, c54])
   refine pickT r45 (by simp) (fun j hj => ?_)
   simp only [List.mem_cons, List.not_mem_nil, or_false] at hj
   rw [hj]
   refine ⟨o1, h1, fun K' hK => s1 _ wv67 K' x0 U0 (some bv51) (some bv69) (a5 _ _ (a4 _ _ hAt)) hv68 fun xv72 wv70 hv71 => hK.out _ _ (hS _ _ _ _ _ _ _ hv71) ?_⟩
   rw [e1]
   (try simp only [c31, c41, c43, c51, c53, c54])
   refine pickT r145 (by simp) (fun j hj => ?_)
   simp only [List.mem_cons, List.not_mem_nil, or_false] at hj
   rw [hj]
   refine ⟨o3, h3, fun K' hK => s3 _ wv70 K' xv72 U0 (some bv51) (some bv69) (a1 _ _ (a5 _ _ (a4 _ _ hAt))) hv71 fun Uv75 wv73 hv74 => hK.out _ _ (hS _ _ _ _ _ _ _ hv74) ?_⟩
   rw [e3]
   have g_ := hfin xv72 Uv75 bv51 bv69 wv73 hv74
   (try simp only [c31, c41, c43, c51, c53, c54, p31, p41, p43, p51, p53, p54])
   exact g_
 ·refine ⟨o5, h5, fun K' hK => s5 _ w K' 0 x0 U0 none hAt hw fun bv78 wv76 hv77 => hK.out _ _ (hS _ _ _ _ _ _ _ hv77) ?_⟩
  rw [e5]
  refine pickT r5 (by simp) (fun j hj => ?_)
  simp only [List.mem_cons, List.not_mem_nil, or_false] at hj
  rcases hj with hj | hj <;> rw [hj]
  ·refine ⟨o1, h1, fun K' hK => s1 _ wv76 K' x0 U0 none (some bv78) (a5 _ _ hAt) hv77 fun xv81 wv79 hv80 => hK.out _ _ (hS _ _ _ _ _ _ _ hv80) ?_⟩
   rw [e1]
   (try simp only [c31, c41, c43, c51, c53, c54])
   refine pickT r15 (by simp) (fun j hj => ?_)
   simp only [List.mem_cons, List.not_mem_nil, or_false] at hj
   rcases hj with hj | hj <;> rw [hj]
   ·refine ⟨o3, h3, fun K' hK => s3 _ wv79 K' xv81 U0 none (some bv78) (a1 _ _ (a5 _ _ hAt)) hv80 fun Uv84 wv82 hv83 => hK.out _ _ (hS _ _ _ _ _ _ _ hv83) ?_⟩
    rw [e3]
    (try simp only [c31, c41, c43, c51, c53, c54])
    refine pickT r135 (by simp) (fun j hj => ?_)
    simp only [List.mem_cons, List.not_mem_nil, or_false] at hj
    rw [hj]
    refine ⟨o4, h4, fun K' hK => s4 _ wv82 K' 2 xv81 Uv84 (some bv78) (a3 _ _ (a1 _ _ (a5 _ _ hAt))) hv83 fun bv87 wv85 hv86 => hK.out _ _ (hS _ _ _ _ _ _ _ hv86) ?_⟩
    rw [e4]
    have g_ := hfin xv81 Uv84 bv87 bv78 wv85 hv86
    (try simp only [c31, c41, c43, c51, c53, c54, p31, p41, p43, p51, p53, p54])
    exact g_
   ·refine ⟨o4, h4, fun K' hK => s4 _ wv79 K' 1 xv81 U0 (some bv78) (a1 _ _ (a5 _ _ hAt)) hv80 fun bv90 wv88 hv89 => hK.out _ _ (hS _ _ _ _ _ _ _ hv89) ?_⟩
    rw [e4]
    (try simp only [c31, c41, c43, c51, c53, c54])
    refine pickT r145 (by simp) (fun j hj => ?_)
    simp only [List.mem_cons, List.not_mem_nil, or_false] at hj
    rw [hj]
    refine ⟨o3, h3, fun K' hK => s3 _ wv88 K' xv81 U0 (some bv90) (some bv78) (a4 _ _ (a1 _ _ (a5 _ _ hAt))) hv89 fun Uv93 wv91 hv92 => hK.out _ _ (hS _ _ _ _ _ _ _ hv92) ?_⟩
    rw [e3]
    have g_ := hfin xv81 Uv93 bv90 bv78 wv91 hv92
    (try simp only [c31, c41, c43, c51, c53, c54, p31, p41, p43, p51, p53, p54])
    exact g_
  ·refine ⟨o4, h4, fun K' hK => s4 _ wv76 K' 0 x0 U0 (some bv78) (a5 _ _ hAt) hv77 fun bv96 wv94 hv95 => hK.out _ _ (hS _ _ _ _ _ _ _ hv95) ?_⟩
   rw [e4]
   (try simp only [c31, c41, c43, c51, c53, c54])
   refine pickT r45 (by simp) (fun j hj => ?_)
   simp only [List.mem_cons, List.not_mem_nil, or_false] at hj
   rw [hj]
   refine ⟨o1, h1, fun K' hK => s1 _ wv94 K' x0 U0 (some bv96) (some bv78) (a4 _ _ (a5 _ _ hAt)) hv95 fun xv99 wv97 hv98 => hK.out _ _ (hS _ _ _ _ _ _ _ hv98) ?_⟩
   rw [e1]
   (try simp only [c31, c41, c43, c51, c53, c54])
   refine pickT r145 (by simp) (fun j hj => ?_)
   simp only [List.mem_cons, List.not_mem_nil, or_false] at hj
   rw [hj]
   refine ⟨o3, h3, fun K' hK => s3 _ wv97 K' xv99 U0 (some bv96) (some bv78) (a1 _ _ (a4 _ _ (a5 _ _ hAt))) hv98 fun Uv102 wv100 hv101 => hK.out _ _ (hS _ _ _ _ _ _ _ hv101) ?_⟩
   rw [e3]
   have g_ := hfin xv99 Uv102 bv96 bv78 wv100 hv101
   (try simp only [c31, c41, c43, c51, c53, c54, p31, p41, p43, p51, p53, p54])
   exact g_
theorem getD_coreK {α β : Type} (f : α -> β) (l : List α) (i : Nat) (d : α) : f (l.getD i d) = (l.map f).getD i (f d) := by
 simp only [List.getD, List.getElem?_map]
 cases l[i]? <;> rfl
theorem core_pK {g g' : GV} (h : SameG g g') (i : Nat) : (g'.ps.getD i .none).core = (g.ps.getD i .none).core := by
 rw [getD_coreK PV.core, getD_coreK PV.core, h.ps]
theorem core_lK {g g' : GV} (h : SameG g g') (i : Nat) : (g'.ls.getD i .none).core = (g.ls.getD i .none).core := by
 rw [getD_coreK LV.core, getD_coreK LV.core, h.ls]
theorem any_coreK {α β : Type} (f : α -> β) (p : β -> Bool) (l l' : List α) (h : l'.map f = l.map f) (i : Nat) : ((l'.take i).any fun q => p (f q)) = ((l.take i).any fun q => p (f q)) := by
 have e : ∀ k : List α, ((k.take i).any fun q => p (f q)) = ((k.map f).take i).any p := fun k => by rw [<- List.map_take, List.any_map]; rfl
 rw [e, e, h]
theorem same_prodUK {g g' : GV} (h : SameG g g') (i : Nat) : prodU g' i = prodU g i := by
 have hc := core_pK h i
 have c1 : (g'.ps.getD i .none).left = (g.ps.getD i .none).left := congrArg (·.1) hc
 have c2 : (g'.ps.getD i .none).right = (g.ps.getD i .none).right := congrArg (·.2.1) hc
 have c3 : (g'.ps.getD i .none).prec = (g.ps.getD i .none).prec := congrArg (·.2.2) hc
 have hn : inN g' = inN g := by funext x; simp only [inN, h.ns]
 have ht : inT g' = inT g := by funext x; simp only [inT, h.ts]
 have hG : inG g' = inG g := by funext x y; simp only [inG, ht, hn]
 have ha := any_coreK PV.core (fun q => q.1 == (g.ps.getD i .none).left && q.2.1 == (g.ps.getD i .none).right) g.ps g'.ps h.ps i
 unfold prodU
 rw [c1, c2, c3, hn, ht, hG]
 have ha' : ((g'.ps.take i).any fun q => q.left == (g.ps.getD i .none).left && q.right == (g.ps.getD i .none).right) = ((g.ps.take i).any fun q => q.left == (g.ps.getD i .none).left && q.right == (g.ps.getD i .none).right) := ha
 rw [ha']
theorem same_levelUK {g g' : GV} (h : SameG g g') (i : Nat) : levelU g' i = levelU g i := by
 have hc := core_lK h i
 have c1 : (g'.ls.getD i .none).assoc = (g.ls.getD i .none).assoc := congrArg (·.1) hc
 have c2 : (g'.ls.getD i .none).terms = (g.ls.getD i .none).terms := congrArg (·.2) hc
 have ht : inT g' = inT g := by funext x; simp only [inT, h.ts]
 have hnm : namedU g'.ls i = namedU g.ls i := by
  have e : ∀ k : List LV, namedU k i = ((k.map LV.core).take i).flatMap (·.2) := fun k => by rw [<- List.map_take, List.flatMap_map]; rfl
  rw [e, e, h.ls]
 unfold levelU
 rw [c1, c2, ht, hnm]
theorem same_checkK {g g' : GV} (h : SameG g g') : checkG g' (checkF g'.ts g'.ns) = checkG g (checkF g.ts g.ns) := by
 have hp : g'.ps.length = g.ps.length := by simpa using congrArg List.length h.ps
 have hl : g'.ls.length = g.ls.length := by simpa using congrArg List.length h.ls
 have hn : inN g' = inN g := by funext x; simp only [inN, h.ns]
 have e1 : prodU g' = prodU g := funext (same_prodUK h)
 have e2 : levelU g' = levelU g := funext (same_levelUK h)
 unfold checkG
 rw [h.ts, h.ns, h.start, hp, hl, hn, e1, e2]
end Go.Proofs.YtndbdliaidbocaaGreat
