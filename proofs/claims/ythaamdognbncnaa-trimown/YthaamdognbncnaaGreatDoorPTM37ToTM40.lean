import Derived.Test.YthaamdognbncnaaGreatDoorPTM33ToTM36
namespace Go.Proofs.YthaamdognbncnaaGreatDoor
set_option linter.unusedVariables false
set_option maxRecDepth 100000
set_option maxHeartbeats 16000000
open Go.RowKit Go.Shelf Go.Maps
structure GBs (w:World)(l:List ByteArray)(v:Value)(wr:World):Prop where
 gs:GS wr v l
 own:∀ j,v.ownBlock=some j->w.heap.size<=j
 bel:Below w.heap.size w wr
theorem GBs.any {w wr w':World}{l:List ByteArray}{v:Value}(h:GBs w l v wr)(hb:Below wr.heap.size wr w'):GBs w l v w':=⟨h.gs.later hb,h.own,h.bel.trans (hb.mono h.bel.size)⟩
def nmU (f:Int×Int->Option Int)(d:Int)(ss:List ByteArray)(k:Nat):List ByteArray:=(List.range k).filterMap fun (i:Nat)=>if (f (d,(i:Int))).isSome=true then some (ss.getD i ByteArray.empty) else none
theorem nmU_succ (f:Int×Int->Option Int)(d:Int)(ss:List ByteArray)(k:Nat):nmU f d ss (k+1)=nmU f d ss k++if (f (d,(k:Int))).isSome=true then [ss.getD k ByteArray.empty] else []:=by
 unfold nmU
 rw [List.range_succ,List.filterMap_append]
 congr 1
 simp only [List.filterMap_cons,List.filterMap_nil]
 split<;>rename_i h
 ·split at h
  ·cases h
  ·rename_i h2;rw [if_neg h2]
 ·split at h
  ·rename_i h2;rw [if_pos h2];cases h;rfl
  ·cases h
theorem nmU_len (f:Int×Int->Option Int)(d:Int)(ss:List ByteArray)(k:Nat):(nmU f d ss k).length<=k:=Nat.le_trans (List.length_filterMap_le _ _) (by simp)
theorem names1_P (mb:Nat)(f:Int×Int->Option Int)(ta:Option Addr)(tc:Nat)(ss:List ByteArray)(w:World)(hm:MI w mb f)(hr:StrRow w ta ss)(hl:ss.length<=100000) :
  Calls Tryz.prog 69 #[.map (some mb),.slice ta ss.length tc,.func (.func 70) #[] #[]] w fun e w'=>∃ v,e=.returned v/\GBs w (nmU f 1 ss ss.length) v w':=by
 have HM:Hid (∀ w',Below w.heap.size w w'->MI w' mb f):=fun w' hb=>hm.later hb
 have HR:Hid (∀ w',Below w.heap.size w w'->StrRow w' ta ss):=fun w' hb=>hr.later hb
 clear hm hr
 go_enter Tryz.func69,Tryz.ntmps69
 go_wp2
 go_loopw [7,14] (fun v i wr=>∃ k:Nat,k<=ss.length/\i=.int .i64 k/\GBs w (nmU f 1 ss k) v wr) (fun _ i _=>ss.length - (intOf i).toNat)
 case atStart=>exact ⟨0,Nat.zero_le _,rfl,GS.nil _,(fun j hj=>by simp [Value.ownBlock] at hj),Below.refl _ _⟩
 case round =>
  obtain ⟨k,hk,rfl,hL⟩:=hrel
  obtain ⟨va,vc,rfl⟩:=gs_len hL.gs
  have HL:Hid (GBs w (nmU f 1 ss k) (.slice va (nmU f 1 ss k).length vc) wr):=hL
  by_cases hlt:k < ss.length
  ·obtain ⟨b,o,rfl,hbl,hc⟩:=(HR.out wr hL.bel) (by intro e;rw [e] at hlt;simp at hlt)
   have c0:=hc k hlt
   have klt:(k:Int) < (ss.length:Int):=by omega
   have HT:Hid _:=nmU_succ f 1 ss k
   have hrl:=nmU_len f 1 ss k
   have LK:Hid (∀ wq,Below wr.heap.size wr wq->(Instr.lookup 82 (.map (some mb)) (.agg #[.int .i64 1,.int .i64 (k:Int)]) true).run Tryz.prog wq=.ok (.tuple #[.int .i64 ((f (1,(k:Int))).getD 0),.bool (f (1,(k:Int))).isSome]) wq):=fun wq hq=>(HM.out wq (hL.bel.trans (hq.mono hL.bel.size))).look (by unfold wfI;decide) (wf_small (by omega) (by omega))
   generalize ss.getD k ByteArray.empty=s at *
   obtain ⟨fx,hfx⟩:∃ fx,f (1,(k:Int))=fx:=⟨_,rfl⟩
   rw [hfx] at HT LK
   generalize nmU f 1 ss k=R at *
   clear hc hbl hL hfx
   cases fx with
   | none =>
    go_wp2_with (go_at_call 70;refine (term_P _ _).mono ?_;rintro e wt ⟨rfl,bt⟩;have BT:Hid (Below wr.heap.size wr wt):=bt;have lk:=LK.out wt BT.out;clear bt)
    have R5:Hid (GBs w (nmU f 1 ss (k+1)) (.slice va R.length vc) wt):=by
     show GBs _ _ _ _
     rw [HT.out]
     simpa using HL.out.any BT.out
    go_roundw
    case rel=>exact ⟨k+1,by omega,by go_num,R5.out⟩
    case measure=>simp [intOf];omega
   | some y =>
    have HLT:Hid (R.length<=1000000):=by show _<=_;omega
    go_wp2_with (first
     | (go_at_call 70;refine (term_P _ _).mono ?_;rintro e wt ⟨rfl,bt⟩;have BT:Hid (Below wr.heap.size wr wt):=bt;have lk:=LK.out wt BT.out;clear bt)
     | (at_builtin;refine wpList_gs_append rfl _ _ rfl (.slice va R.length vc) R rfl ((HL.out.any BT.out).any (bAl _ _)).gs _ 1 s rfl (by simp) HLT.out ?_;intro a5 n5 c5 w5 ho5 hg5))
    have q0:=(HL.out.any BT.out).any (bAl _ (.cells #[.string s] 9))
    obtain ⟨q1,q2⟩:=gBi q0.bel q0.own hg5
    have R5:Hid (GBs w (nmU f 1 ss (k+1)) (.slice a5 n5 c5) w5):=⟨by rw [HT.out];simpa using ho5,q2,q1⟩
    clear q0 q1 q2 ho5 hg5
    go_wp2
    go_roundw
    case rel=>exact ⟨k+1,by omega,by go_num,R5.out⟩
    case measure=>simp [intOf];omega
  ·obtain rfl:k=ss.length:=by omega
   clear hL
   go_wp2
   go_ret
   exact ⟨_,rfl,HL.out⟩
theorem names2_P (mb:Nat)(f:Int×Int->Option Int)(ta:Option Addr)(tc:Nat)(ss:List ByteArray)(w:World)(hm:MI w mb f)(hr:StrRow w ta ss)(hl:ss.length<=100000) :
  Calls Tryz.prog 69 #[.map (some mb),.slice ta ss.length tc,.func (.func 30) #[] #[]] w fun e w'=>∃ v,e=.returned v/\GBs w (nmU f 2 ss ss.length) v w':=by
 have HM:Hid (∀ w',Below w.heap.size w w'->MI w' mb f):=fun w' hb=>hm.later hb
 have HR:Hid (∀ w',Below w.heap.size w w'->StrRow w' ta ss):=fun w' hb=>hr.later hb
 clear hm hr
 go_enter Tryz.func69,Tryz.ntmps69
 go_wp2
 go_loopw [7,14] (fun v i wr=>∃ k:Nat,k<=ss.length/\i=.int .i64 k/\GBs w (nmU f 2 ss k) v wr) (fun _ i _=>ss.length - (intOf i).toNat)
 case atStart=>exact ⟨0,Nat.zero_le _,rfl,GS.nil _,(fun j hj=>by simp [Value.ownBlock] at hj),Below.refl _ _⟩
 case round =>
  obtain ⟨k,hk,rfl,hL⟩:=hrel
  obtain ⟨va,vc,rfl⟩:=gs_len hL.gs
  have HL:Hid (GBs w (nmU f 2 ss k) (.slice va (nmU f 2 ss k).length vc) wr):=hL
  by_cases hlt:k < ss.length
  ·obtain ⟨b,o,rfl,hbl,hc⟩:=(HR.out wr hL.bel) (by intro e;rw [e] at hlt;simp at hlt)
   have c0:=hc k hlt
   have klt:(k:Int) < (ss.length:Int):=by omega
   have HT:Hid _:=nmU_succ f 2 ss k
   have hrl:=nmU_len f 2 ss k
   have LK:Hid (∀ wq,Below wr.heap.size wr wq->(Instr.lookup 82 (.map (some mb)) (.agg #[.int .i64 2,.int .i64 (k:Int)]) true).run Tryz.prog wq=.ok (.tuple #[.int .i64 ((f (2,(k:Int))).getD 0),.bool (f (2,(k:Int))).isSome]) wq):=fun wq hq=>(HM.out wq (hL.bel.trans (hq.mono hL.bel.size))).look (by unfold wfI;decide) (wf_small (by omega) (by omega))
   generalize ss.getD k ByteArray.empty=s at *
   obtain ⟨fx,hfx⟩:∃ fx,f (2,(k:Int))=fx:=⟨_,rfl⟩
   rw [hfx] at HT LK
   generalize nmU f 2 ss k=R at *
   clear hc hbl hL hfx
   cases fx with
   | none =>
    go_wp2_with (go_at_call 30;refine (non_P _ _).mono ?_;rintro e wt ⟨rfl,bt⟩;have BT:Hid (Below wr.heap.size wr wt):=bt;have lk:=LK.out wt BT.out;clear bt)
    have R5:Hid (GBs w (nmU f 2 ss (k+1)) (.slice va R.length vc) wt):=by
     show GBs _ _ _ _
     rw [HT.out]
     simpa using HL.out.any BT.out
    go_roundw
    case rel=>exact ⟨k+1,by omega,by go_num,R5.out⟩
    case measure=>simp [intOf];omega
   | some y =>
    have HLT:Hid (R.length<=1000000):=by show _<=_;omega
    go_wp2_with (first
     | (go_at_call 30;refine (non_P _ _).mono ?_;rintro e wt ⟨rfl,bt⟩;have BT:Hid (Below wr.heap.size wr wt):=bt;have lk:=LK.out wt BT.out;clear bt)
     | (at_builtin;refine wpList_gs_append rfl _ _ rfl (.slice va R.length vc) R rfl ((HL.out.any BT.out).any (bAl _ _)).gs _ 1 s rfl (by simp) HLT.out ?_;intro a5 n5 c5 w5 ho5 hg5))
    have q0:=(HL.out.any BT.out).any (bAl _ (.cells #[.string s] 9))
    obtain ⟨q1,q2⟩:=gBi q0.bel q0.own hg5
    have R5:Hid (GBs w (nmU f 2 ss (k+1)) (.slice a5 n5 c5) w5):=⟨by rw [HT.out];simpa using ho5,q2,q1⟩
    clear q0 q1 q2 ho5 hg5
    go_wp2
    go_roundw
    case rel=>exact ⟨k+1,by omega,by go_num,R5.out⟩
    case measure=>simp [intOf];omega
  ·obtain rfl:k=ss.length:=by omega
   clear hL
   go_wp2
   go_ret
   exact ⟨_,rfl,HL.out⟩
def lv1 (f:Int×Int->Option Int)(l:LV):Option (Int×List Int):=if l.terms.filterMap (fun x=>f (1,x))=[] then none else some (l.assoc,l.terms.filterMap fun x=>f (1,x))
def lvsU (f:Int×Int->Option Int)(ls:List LV):List (Int×List Int):=ls.filterMap (lv1 f)
theorem lvsU_take {f:Int×Int->Option Int}{ls:List LV}{k:Nat}(hk:k < ls.length):lvsU f (ls.take (k+1))=lvsU f (ls.take k)++(lv1 f (ls.getD k .none)).toList:=by
 unfold lvsU
 rw [List.take_succ_eq_append_getElem hk,List.filterMap_append]
 congr 1
 rw [List.getD_eq_getElem?_getD,List.getElem?_eq_getElem hk]
 simp [List.filterMap_cons]
 cases lv1 f ls[k]<;>rfl
theorem levels_P (mb:Nat)(f:Int×Int->Option Int)(la:Option Addr)(lc:Nat)(ls:List LV)(w:World)(hm:MI w mb f)(hr:LvRow w la ls)(hl:ls.length<=100000)(ht:∀ l∈ls,l.terms.length<=100000/\∀ x∈l.terms,wfI x) :
  Calls Tryz.prog 72 #[.map (some mb),.slice la ls.length lc] w fun e w'=>∃ v l',e=.returned v/\LO w.heap.size w' v l'/\l'.map LV.core=lvsU f ls/\Below w.heap.size w w':=by
 have HM:Hid (∀ w',Below w.heap.size w w'->MI w' mb f):=fun w' hb=>hm.later hb
 have HR:Hid (∀ w',Below w.heap.size w w'->LvRow w' la ls):=fun w' hb=>hr.later hb
 have HT:Hid (∀ l∈ls,l.terms.length<=100000/\∀ x∈l.terms,wfI x):=ht
 clear hm hr ht
 go_enter Tryz.func72,Tryz.ntmps72
 go_wp2
 go_loopw [5,11] (fun v i wr=>∃ (k:Nat) (l':List LV),k<=ls.length/\i=.int .i64 k/\LO w.heap.size wr v l'/\l'.map LV.core=lvsU f (ls.take k)/\l'.length<=k/\Below w.heap.size w wr) (fun _ i _=>ls.length - (intOf i).toNat)
 case atStart=>exact ⟨0,[],Nat.zero_le _,rfl,LO.nil _ _,rfl,Nat.le_refl _,Below.refl _ _⟩
 case round =>
  obtain ⟨k,l',hk,rfl,hO,hcore,hll,hB⟩:=hrel
  obtain ⟨va,vc,rfl⟩:=LY.len hO.row
  have HO:Hid (LO w.heap.size wr (.slice va l'.length vc) l'/\Below w.heap.size w wr):=⟨hO,hB⟩
  by_cases hlt:k < ls.length
  ·have hlv:=HR.out wr hB
   obtain ⟨b,o,rfl,hbl,hc⟩:=hlv.cells (by intro e;rw [e] at hlt;simp at hlt)
   obtain ⟨c0,c1⟩:=hc k hlt
   have hmem:ls.getD k .none∈ls:=by simp [List.getD,hlt]
   have hrow:=hlv.rows _ hmem
   have klt:(k:Int) < (ls.length:Int):=by omega
   have h1:=HT.out _ hmem
   have HC:Hid (∀ l2:List LV,l2.map LV.core=(l'.map LV.core)++(lv1 f (ls.getD k .none)).toList->l2.map LV.core=lvsU f (ls.take (k+1))):=fun l2 e=>by rw [e,hcore,lvsU_take hlt]
   generalize ls.getD k .none=q at *
   have TM:Hid (Calls Tryz.prog 95 #[.map (some mb),.slice q.ta q.terms.length q.tc] (wr.alloc (.cells #[.int .i64 q.assoc,.slice q.ta q.terms.length q.tc] 90)) fun e w'=>∃ v,e=.returned v/\LBs (wr.alloc (.cells #[.int .i64 q.assoc,.slice q.ta q.terms.length q.tc] 90)) (q.terms.filterMap fun x=>f (1,x)) v w') :=
    terms_P mb f q.ta q.tc q.terms _ ((HM.out wr hB).later (bAl _ _)) (hrow.later (bAl _ _)) h1.1 h1.2
   have BX:Hid ((wr.alloc (.cells #[.int .i64 q.assoc,.slice q.ta q.terms.length q.tc] 90)).heap[wr.heap.size]?=some (.cells #[.int .i64 q.assoc,.slice q.ta q.terms.length q.tc] 90)):=heap_alloc_new _ _
   clear hc hbl hlv hrow h1 hO hB hcore hmem
   obtain ⟨Ts,hTs⟩:∃ Ts,q.terms.filterMap (fun x=>f (1,x))=Ts:=⟨_,rfl⟩
   have HL1:Hid (lv1 f q=if Ts=[] then none else some (q.assoc,Ts)):=by
    show _=_
    unfold lv1
    rw [hTs]
   rw [hTs] at TM
   clear hTs
   go_wp2_with (go_at_call 95;refine TM.out.mono ?_)
   rintro e w5 ⟨tv,rfl,l5⟩
   obtain ⟨ta,tc,rfl⟩:=il_len l5.il
   have H5:Hid (LBs (wr.alloc (.cells #[.int .i64 q.assoc,.slice q.ta q.terms.length q.tc] 90)) Ts (.slice ta Ts.length tc) w5/\LO w.heap.size w5 (.slice va l'.length vc) l'/\Below w.heap.size w w5/\wr.heap.size<=w5.heap.size):=by
    have b1:=(bAl wr (.cells #[.int .i64 q.assoc,.slice q.ta q.terms.length q.tc] 90)).trans (l5.bel.mono (bAl wr _).size)
    exact ⟨l5,HO.out.1.later b1,HO.out.2.trans (b1.mono HO.out.2.size),b1.size⟩
   obtain ⟨d0,d1,d2,d3⟩:=two_cells ((l5.bel.block _ (lt_of_block BX.out)).trans BX.out)
   clear l5
   rcases Ts with _ | ⟨t0,Ts⟩
   ·have R:Hid (l'.map LV.core=lvsU f (ls.take (k+1))):=HC.out l' (by rw [HL1.out];simp)
    go_wp2
    go_roundw
    case rel=>exact ⟨k+1,l',by omega,by go_num,H5.out.2.1,R.out,by omega,H5.out.2.2.1⟩
    case measure=>simp [intOf];omega
   ·have tpos:(0:Int) < ((t0 :: Ts).length:Int):=by rw [List.length_cons];omega
    have R:Hid (∀ x:LV,x.assoc=q.assoc->x.terms=t0 :: Ts->(l'++[x]).map LV.core=lvsU f (ls.take (k+1))):=fun x e1 e2=>HC.out _ (by rw [HL1.out];simp [LV.core,e1,e2])
    obtain ⟨tl,htl⟩:∃ tl,tl=t0 :: Ts:=⟨_,rfl⟩
    rw [<- htl] at H5 R tpos
    rw [<- htl]
    have HLT:Hid (l'.length<=2000000):=by show _<=_;omega
    clear htl
    go_wp2_with (at_builtin;refine wpList_LY_append rfl _ _ rfl (.slice va l'.length vc) l' rfl (H5.out.2.1.later (bAl _ _)).row _ 1 ⟨q.assoc,ta,tc,tl⟩ rfl (fun j u hu=>by rcases j with _ | _ | j<;>simp at hu<;>subst hu<;>simp) HLT.out ?_;intro a6 n6 c6 w6 ho6 hg6)
    have R6:Hid (LO w.heap.size w6 (.slice a6 n6 c6) (l'++[⟨q.assoc,ta,tc,tl⟩])/\Below w.heap.size w w6):=by
     have hO:=H5.out.2.1.later (bAl w5 (.cells #[.int .i64 q.assoc,.slice ta tl.length tc] 90))
     have hB:=H5.out.2.2.1.alloc H5.out.2.2.1.size (.cells #[.int .i64 q.assoc,.slice ta tl.length tc] 90)
     refine ⟨hO.append ho6 hg6 hB.size (H5.out.1.il.later (bAl _ _)) fun j hj=>?_,(gBi hB hO.lo hg6).1⟩
     have hj2:=H5.out.1.own j hj
     have hj3:wr.heap.size < j:=by have:=hj2;simp at this;omega
     refine ⟨by have:=HO.out.2.size;omega,fun e=>?_,fun x hx e=>?_⟩
     ·have:=HO.out.1.row.lt j e;omega
     ·have:=(HO.out.1.each x hx).lt j e;omega
    clear ho6 hg6
    go_wp2
    go_roundw
    case rel=>exact ⟨k+1,_,by omega,by go_num,R6.out.1,R.out _ rfl rfl,by simp;omega,R6.out.2⟩
    case measure=>simp [intOf];omega
  ·obtain rfl:k=ls.length:=by omega
   have R:Hid (l'.map LV.core=lvsU f ls):=by show _=_;rw [hcore,List.take_length]
   clear hO hB hcore
   go_wp2
   go_ret
   exact ⟨_,l',rfl,HO.out.1,R.out,HO.out.2⟩
theorem run_sy_append7 (w:World)(ty:TypeId)(v:Value)(l:List (Int×Int))(h:SY w v l)(b c:Nat)(k n:Int)(hy:w.cell? ⟨b,0,none⟩=some (.int .i64 k))(hy2:w.cell? ⟨b,1,none⟩=some (.int .i64 n))(hlen:l.length<=1000000) :
  ∃ a' n' c' w',(Builtin.append_ #[51,51] ty #[v,.slice (some ⟨b,0,none⟩) 1 c]).run Tryz.prog w=.ok (.slice a' n' c') w'/\SY w' (.slice a' n' c') (l++[(k,n)])/\Grew w w' v (.slice a' n' c'):=by
 obtain ⟨i0,hi,hz0,hz1,hz2⟩:=infoSym_parts
 obtain ⟨v',w',hrun,hown,hgrow,_,hmv⟩:=run_append_own_at (P:=Tryz.prog) (w:=w) 0 51 ty 62 i0 (.agg #[.int .i64 0,.int .i64 0]) 2 16 Tryz.underlying51 hi hz0 hz1 hz2 rfl (by decide) v l.length (sCl l) h ⟨b,0,none⟩ 1 c [.int .i64 k,.int .i64 n] (by simp) (fun j u hu=>by rw [aNn,Nat.zero_add];rcases j with _ | _ | j<;>simp at hu<;>subst hu<;>assumption) (fun u hu=>by simp at hu;rcases hu with rfl | rfl<;>rfl) (by unfold maxLen;omega) (by omega) (Nat.zero_le _)
 have h6:SY w' v' (l++[(k,n)]):=by
  unfold SY
  have e:sCl (l++[(k,n)])=sCl l++[.int .i64 k,.int .i64 n]:=by simp [sCl]
  rw [e]
  simpa using hown
 obtain ⟨a',c',rfl⟩:=sy_len h6
 exact ⟨_,_,_,w',hrun,h6,⟨hgrow,hmv.imp id fun e=>⟨_,e,Nat.le_refl _⟩⟩⟩
theorem step_sy_append7 {ops:Array Oper}{o:Oper}{a:Act}{w:World}{K:Act->World->Prop}{Q:Exit->Act->World->Prop}{E:Prop}
  (hg:o.guard=none) (s x:Operand) (hop:o.op=Op.call { callee:=Callee.builtin Builtin.append,args:=#[s,x],argTypes:=#[51,51] })
  (v:Value) (l:List (Int×Int)) (hs:a.eval s=v) (h:SY w v l) (b c:Nat) (k n:Int) (hx:a.eval x=.slice (some ⟨b,0,none⟩) 1 c) (hy:w.cell? ⟨b,0,none⟩=some (.int .i64 k)) (hy2:w.cell? ⟨b,1,none⟩=some (.int .i64 n)) (hlen:l.length<=1000000)
  (hK:∀ a' n' c' w',SY w' (.slice a' n' c') (l++[(k,n)])->Grew w w' v (.slice a' n' c')->K (a.put o.dst (.slice a' n' c')) w') :
  if Region.wanted o (yielded ops a.tmps)=true then Oper.wp Tryz.prog o a w K Q else E:=by
 have hw:Region.wanted o (yielded ops a.tmps)=true:=by simp [Region.wanted,hg]
 rw [if_pos hw]
 obtain ⟨a',n',c',w',hrun,r1,r2⟩:=run_sy_append7 w o.type v l h b c k n hy hy2 hlen
 unfold Oper.wp
 simp [execOp,hop,resolve,invoke,builtin,hs,hx,hrun,Result.andThen]
 exact hK a' n' c' w' r1 r2
theorem sy_ne7 {w:World}{v:Value}{l:List (Int×Int)}(h:SY w v l){k:Nat}{C:Array Value}{t:TypeId}(hk:w.heap[k]?=some (.cells C t (0,0)))(ht:t≠62):v.ownBlock≠some k:=fun e=>by
 rcases h.2 with ⟨e1,_⟩ | ⟨g,cap,cur,e1,h1,h2,_⟩
 ·rw [e1] at e;simp [Value.ownBlock] at e
 ·rw [e1] at e
  simp [Value.ownBlock] at e
  subst e
  rw [h2] at hk
  simp at hk
  exact ht hk.2.symm
theorem c3Z {w:World}{b:Nat}{v0 v1 v2:Value}{t:TypeId}(h:w.heap[b]?=some (.cells #[v0,v1,v2] t (0,0))):w.cell? ⟨b,0,none⟩=some v0/\w.cell? ⟨b,1,none⟩=some v1/\w.cell? ⟨b,2,none⟩=some v2/\(∀ i,w.frozen? ⟨b,i,none⟩=false) :=
 ⟨(cQa h).trans rfl,(cQa h).trans rfl,(cQa h).trans rfl,fun i=>by simp [World.frozen?,h]⟩
def prU7 (f:Int×Int->Option Int)(p:PV):Int×List (Int×Int)×Int:=((f (2,p.left)).getD 0,p.right.map (fun s=>(s.1,(f s).getD 0)),(f (1,p.prec)).getD (-1))
def prS (ob sb mb:Nat)(x:Int×Int)(u v:Value)(w':World):Prop:=w'.cell? ⟨ob,1,none⟩=some u/\w'.cell? ⟨sb,0,none⟩=some (.int .i64 x.1)/\w'.cell? ⟨sb,1,none⟩=some (.int .i64 x.2)/\(Instr.lookup 82 (.map (some mb)) (.agg #[.int .i64 x.1,.int .i64 x.2]) false).run Tryz.prog w'=.ok v w'
structure PI (w2:World)(ob:Nat)(L:Int)(R:List (Int×Int))(a:Option Addr)(c:Nat)(wr:World):Prop where
 box:wr.heap[ob]?=some (.cells #[.int .i64 L,.slice a R.length c,.int .i64 (-1)] 68)
 sy:SY wr (.slice a R.length c) R
 own:∀ j,(Value.slice a R.length c).ownBlock=some j->w2.heap.size<=j
 lo:w2.heap.size<=ob
 bel:Below w2.heap.size w2 wr
theorem PI.any {w2 wr w':World}{ob:Nat}{L:Int}{R:List (Int×Int)}{a:Option Addr}{c:Nat}(h:PI w2 ob L R a c wr)(hb:Below wr.heap.size wr w'):PI w2 ob L R a c w':=⟨(hb.block _ (lt_of_block h.box)).trans h.box,h.sy.later hb,h.own,h.lo,h.bel.trans (hb.mono h.bel.size)⟩
set_option linter.unusedSimpArgs false in
theorem prod_P (mb:Nat)(f:Int×Int->Option Int)(p:PV)(w:World)(hm:MI w mb f)(hr:SymRow w p.ra p.right)(hl:p.right.length<=100000)(h1:wfI p.left)(h2:wfI p.prec)(h3:∀ s∈p.right,wfI s.1/\wfI s.2) :
  Calls Tryz.prog 94 #[.map (some mb),.agg #[.int .i64 p.left,.slice p.ra p.right.length p.rc,.int .i64 p.prec]] w fun e w'=>∃ q:PV,e=.returned (.agg #[.int .i64 q.left,.slice q.ra q.right.length q.rc,.int .i64 q.prec])/\q.core=prU7 f p/\SY w' (.slice q.ra q.right.length q.rc) q.right/\(∀ j,(Value.slice q.ra q.right.length q.rc).ownBlock=some j->w.heap.size<=j)/\Below w.heap.size w w':=by
 obtain ⟨wb,hwb⟩:∃ wb:World,wb=(w.alloc (.cells #[.int .i64 p.left,.slice p.ra p.right.length p.rc,.int .i64 p.prec] 68)).alloc (.cells #[.int .i64 0,.slice none 0 0,.int .i64 0] 68):=⟨_,rfl⟩
 have bb:Below w.heap.size w wb:=by rw [hwb];exact (bAl w _).trans ((bAl _ _).mono (bAl w _).size)
 have X0:wb.heap[w.heap.size]?=some (.cells #[.int .i64 p.left,.slice p.ra p.right.length p.rc,.int .i64 p.prec] 68):=by
  rw [hwb]
  exact ((bAl (w.alloc _) _).block _ (by simp)).trans (heap_alloc_new _ _)
 have X1:wb.heap[w.heap.size+1]?=some (.cells #[.int .i64 0,.slice none 0 0,.int .i64 0] 68):=by
  rw [hwb]
  have:=heap_alloc_new (w.alloc (.cells #[.int .i64 p.left,.slice p.ra p.right.length p.rc,.int .i64 p.prec] 68)) (.cells #[.int .i64 0,.slice none 0 0,.int .i64 0] 68)
  rwa [show (w.alloc (.cells #[.int .i64 p.left,.slice p.ra p.right.length p.rc,.int .i64 p.prec] 68)).heap.size=w.heap.size+1 by simp] at this
 have XB:Hid (Below w.heap.size w wb/\wb.heap[w.heap.size]?=some (.cells #[.int .i64 p.left,.slice p.ra p.right.length p.rc,.int .i64 p.prec] 68)/\wb.heap[w.heap.size+1]?=some (.cells #[.int .i64 0,.slice none 0 0,.int .i64 0] 68)):=⟨bb,X0,X1⟩
 have HM:Hid (∀ w',Below w.heap.size w w'->MI w' mb f):=fun w' hb=>hm.later hb
 have HR:Hid (∀ w',Below w.heap.size w w'->SymRow w' p.ra p.right):=fun w' hb=>hr.later (Nat.le_refl _) hb
 have HW:Hid (wfI p.left/\wfI p.prec/\∀ s∈p.right,wfI s.1/\wfI s.2):=⟨h1,h2,h3⟩
 obtain ⟨x0,x1,x2,x3⟩:=c3Z X0
 clear hm hr h1 h2 h3 bb X0 X1
 go_enter Tryz.func94,Tryz.ntmps94
 go_wp2_with (go_at_call 30;rw [<- hwb];refine (non_P _ _).mono ?_;rintro e w2 ⟨rfl,b2⟩;have B2:Hid (Below w.heap.size w w2/\w2.heap[w.heap.size]?=some (.cells #[.int .i64 p.left,.slice p.ra p.right.length p.rc,.int .i64 p.prec] 68)/\w2.heap[w.heap.size+1]?=some (.cells #[.int .i64 0,.slice none 0 0,.int .i64 0] 68)):=⟨XB.out.1.trans (b2.mono XB.out.1.size),(b2.block _ (lt_of_block XB.out.2.1)).trans XB.out.2.1,(b2.block _ (lt_of_block XB.out.2.2)).trans XB.out.2.2⟩;have lk:=(HM.out w2 B2.out.1).run (d:=2) (by unfold wfI;decide) HW.out.1;clear b2 x0 x1 x2 x3;obtain ⟨x0,x1,x2,x3⟩:=c3Z B2.out.2.1;obtain ⟨e0,e1,e2,e3⟩:=c3Z (((bAl w2 (.cells #[.int .i64 ((f (2,p.left)).getD 0),.slice none 0 0,.int .i64 (-1)] 68)).block _ (lt_of_block B2.out.2.1)).trans B2.out.2.1))
 generalize hL:(f (2,p.left)).getD 0=L0 at *
 have P0:Hid (PI w2 w2.heap.size L0 [] none 0 (w2.alloc (.cells #[.int .i64 L0,.slice none 0 0,.int .i64 (-1)] 68))):=⟨heap_alloc_new _ _,SY.nil _,(fun j hj=>by simp [Value.ownBlock] at hj),Nat.le_refl _,bAl _ _⟩
 have HLE:Hid ((f (2,p.left)).getD 0=L0):=hL
 clear lk x0 x1 x2 x3 e0 e1 e2 e3 hwb XB hL
 generalize hob:w2.heap.size=ob at *
 have HOB:Hid (w2.heap.size=ob):=hob
 clear hob
 go_loopw [19] (fun i wr=>∃ (k:Nat) (a:Option Addr) (c:Nat),k<=p.right.length/\i=.int .i64 k/\PI w2 ob L0 ((p.right.take k).map fun s=>(s.1,(f s).getD 0)) a c wr) (fun i _=>p.right.length - (intOf i).toNat)
 case atStart=>exact ⟨0,none,0,Nat.zero_le _,rfl,P0.out⟩
 case round =>
  clear P0
  obtain ⟨k,a,c,hk,rfl,hI⟩:=hrel
  have HI:Hid (PI w2 ob L0 ((p.right.take k).map fun s=>(s.1,(f s).getD 0)) a c wr):=hI
  have bw:Below w.heap.size w wr:=B2.out.1.trans (hI.bel.mono B2.out.1.size)
  by_cases hlt:k < p.right.length
  ·obtain ⟨rb,ro,hra,hsl,hsc⟩:=(HR.out wr bw) (by intro e;rw [e] at hlt;simp at hlt)
   obtain ⟨s0,s1⟩:=hsc k hlt
   have klt:(k:Int) < (p.right.length:Int):=by omega
   have hwf:=HW.out.2.2 _ (by simp [List.getD,hlt]:p.right.getD k (0,0)∈p.right)
   have HT:Hid ((p.right.take (k+1)).map (fun s=>(s.1,(f s).getD 0))=((p.right.take k).map fun s=>(s.1,(f s).getD 0))++[((p.right.getD k (0,0)).1,(f (p.right.getD k (0,0))).getD 0)]):=by
    show _=_
    rw [List.take_succ_eq_append_getElem hlt,List.map_append,List.getD_eq_getElem?_getD,List.getElem?_eq_getElem hlt]
    rfl
   have hrl:((p.right.take k).map fun s=>(s.1,(f s).getD 0)).length<=100000:=by rw [List.length_map,List.length_take];omega
   generalize p.right.getD k (0,0)=x at *
   obtain ⟨y1,y2⟩:=x
   simp only at s0 s1 hwf HT
   generalize hR:((p.right.take k).map fun s=>(s.1,(f s).getD 0))=R at *
   obtain ⟨wa,hwa⟩:∃ wa:World,wa=(wr.alloc (.cells #[.int .i64 y1,.int .i64 y2] 62)).drew:=⟨_,rfl⟩
   have ba:Below wr.heap.size wr wa:=by rw [hwa];exact (bAl _ _).drew
   have PA:Hid (PI w2 ob L0 R a c wa):=hI.any ba
   have SB:Hid (wa.heap[wr.heap.size]?=some (.cells #[.int .i64 y1,.int .i64 y2] 62)):=by
    show _=_
    rw [hwa]
    exact heap_alloc_new wr _
   have GEN:Hid (∀ wq a' c',PI w2 ob L0 R a' c' wq->wq.heap[wr.heap.size]?=some (.cells #[.int .i64 y1,.int .i64 y2] 62)->prS ob wr.heap.size mb (y1,y2) (.slice a' R.length c') (.int .i64 ((f (y1,y2)).getD 0)) wq):=fun wq a' c' h1 h2=>⟨(cQa h1.box).trans rfl,(cQa h2).trans rfl,(cQa h2).trans rfl,(HM.out wq (B2.out.1.trans (h1.bel.mono B2.out.1.size))).run hwf.1 hwf.2⟩
   have LKW:Hid (∀ wq,Below w2.heap.size w2 wq->(Instr.lookup 82 (.map (some mb)) (.agg #[.int .i64 y1,.int .i64 y2]) false).run Tryz.prog wq=.ok (.int .i64 ((f (y1,y2)).getD 0)) wq):=fun wq h1=>(HM.out wq (B2.out.1.trans (h1.mono B2.out.1.size))).run hwf.1 hwf.2
   have HSZ:Hid (w2.heap.size<=wr.heap.size/\wr.heap.size < wa.heap.size/\ob < wr.heap.size):=⟨hI.bel.size,lt_of_block SB.out,lt_of_block hI.box⟩
   generalize (f (y1,y2)).getD 0=nn at *
   have HLT:Hid (R.length<=1000000):=by show _<=_;omega
   clear hsc hsl hI bw hwf hR
   rw [hra]
   clear hra
   go_wp2
   have hs:Hid (prS ob wr.heap.size mb (y1,y2) (.slice a R.length c) (.int .i64 nn) wa):=GEN.out wa a c PA.out SB.out
   refine wp_region_x (S:=SX 11 (fun _=>True) (prS ob wr.heap.size mb (y1,y2) (.slice a R.length c) (.int .i64 nn))) (by kernel_rfl) ?_
   rw [<- hwa]
   clear hwa
   refine wtT (m:=11) (i:=0) (v:=?_) rfl (Or.inl ⟨by rfl,?_⟩) (SX.both trivial hs.out) ?_
   rotate_left
   ·(intro w hSw;obtain ⟨_,z0,z1,z2,z3⟩:=hSw;go_simp;try (with_reducible rfl))
   (try simp only [Act.put,lsA,lsZ,lsN])
   refine wtT (m:=11) (i:=1) (v:=?_) rfl (Or.inl ⟨by rfl,?_⟩) (SX.both trivial hs.out) ?_
   rotate_left
   ·(intro w hSw;obtain ⟨_,z0,z1,z2,z3⟩:=hSw;go_simp;try (with_reducible rfl))
   (try simp only [Act.put,lsA,lsZ,lsN])
   refine wtT (m:=11) (i:=2) (v:=?_) rfl (Or.inl ⟨by rfl,?_⟩) (SX.both trivial hs.out) ?_
   rotate_left
   ·(intro w hSw;obtain ⟨_,z0,z1,z2,z3⟩:=hSw;go_simp;try (with_reducible rfl))
   (try simp only [Act.put,lsA,lsZ,lsN])
   refine wtT (m:=11) (i:=3) (v:=?_) rfl (Or.inl ⟨by rfl,?_⟩) (SX.both trivial hs.out) ?_
   rotate_left
   ·(intro w hSw;obtain ⟨_,z0,z1,z2,z3⟩:=hSw;go_simp;try (with_reducible rfl))
   (try simp only [Act.put,lsA,lsZ,lsN])
   refine wtT (m:=11) (i:=4) (v:=?_) rfl (Or.inl ⟨by rfl,?_⟩) (SX.both trivial hs.out) ?_
   rotate_left
   ·(intro w hSw;obtain ⟨_,z0,z1,z2,z3⟩:=hSw;go_simp;try (with_reducible rfl))
   (try simp only [Act.put,lsA,lsZ,lsN])
   refine wtT (m:=11) (i:=5) (v:=?_) rfl (Or.inl ⟨by rfl,?_⟩) (SX.both trivial hs.out) ?_
   rotate_left
   ·(intro w hSw;obtain ⟨_,z0,z1,z2,z3⟩:=hSw;go_simp;try (with_reducible rfl))
   (try simp only [Act.put,lsA,lsZ,lsN])
   refine wtT (m:=11) (i:=6) (v:=?_) rfl (Or.inl ⟨by rfl,?_⟩) (SX.both trivial hs.out) ?_
   rotate_left
   ·(intro w hSw;obtain ⟨_,z0,z1,z2,z3⟩:=hSw;go_simp;try (with_reducible rfl))
   (try simp only [Act.put,lsA,lsZ,lsN])
   refine wtT (m:=11) (i:=7) (v:=?_) rfl (Or.inl ⟨by rfl,?_⟩) (SX.both trivial hs.out) ?_
   rotate_left
   ·(intro w hSw;obtain ⟨_,z0,z1,z2,z3⟩:=hSw;go_simp;try (with_reducible rfl))
   (try simp only [Act.put,lsA,lsZ,lsN])
   refine wX1 (j:=8) (by decide +kernel) rfl (fun K' hK=>?_)
   go_simp
   obtain ⟨wc,hwc⟩:∃ wc:World,wc=wa.alloc (.cells #[.int .i64 y1,.int .i64 nn] 62):=⟨_,rfl⟩
   have PC:Hid (PI w2 ob L0 R a c wc):=PA.out.any (by rw [hwc];exact bAl _ _)
   have SC:Hid (wc.heap[wr.heap.size]?=some (.cells #[.int .i64 y1,.int .i64 y2] 62)/\wc.heap[wa.heap.size]?=some (.cells #[.int .i64 y1,.int .i64 nn] 62)):=by
    rw [hwc]
    exact ⟨((bAl wa _).block _ (lt_of_block SB.out)).trans SB.out,heap_alloc_new _ _⟩
   rw [<- hwc]
   refine hK.out _ _ (SX.both trivial (GEN.out wc a c PC.out SC.out.1)) ?_
   clear hK K' hwc hs
   (try simp only [Act.put,lsA,lsZ,lsN])
   refine wX1 (j:=9) (by decide +kernel) rfl (fun K' hK=>?_)
   refine step_sy_append7 (by rfl) _ _ (by rfl) (.slice a R.length c) R (by rfl) PC.out.sy wa.heap.size 1 y1 nn (by rfl) (two_cells SC.out.2).1 (two_cells SC.out.2).2.1 HLT.out ?_
   intro a4 n4 c4 w4 hy4 hg4
   obtain rfl:n4=(R++[(y1,nn)]).length:=by obtain ⟨a',c',e⟩:=sy_len hy4;simp only [Value.slice.injEq] at e;exact e.2.1
   have bo4:w4.heap[ob]?=some (.cells #[.int .i64 L0,.slice a R.length c,.int .i64 (-1)] 68):=(hg4.grown.block ob (lt_of_block PC.out.box) (fun e=>sy_ne7 PC.out.sy PC.out.box (by decide) e.symm)).trans PC.out.box
   have bs4:w4.heap[wr.heap.size]?=some (.cells #[.int .i64 y1,.int .i64 y2] 62):=(hg4.grown.block _ (lt_of_block SC.out.1) (fun e=>by have:=HI.out.sy.lt _ e.symm;omega)).trans SC.out.1
   obtain ⟨q1,q2⟩:=gBi PC.out.bel PC.out.own hg4
   have H4:Hid (SY w4 (.slice a4 (R++[(y1,nn)]).length c4) (R++[(y1,nn)])/\w4.heap[ob]?=some (.cells #[.int .i64 L0,.slice a R.length c,.int .i64 (-1)] 68)/\(∀ j,(Value.slice a4 (R++[(y1,nn)]).length c4).ownBlock=some j->w2.heap.size<=j)/\Below w2.heap.size w2 w4):=⟨hy4,bo4,q2,q1⟩
   have hs4:Hid (prS ob wr.heap.size mb (y1,y2) (.slice a R.length c) (.int .i64 nn) w4):=⟨(cQa bo4).trans rfl,(cQa bs4).trans rfl,(cQa bs4).trans rfl,LKW.out w4 q1⟩
   obtain ⟨f0,f1,f2,f3⟩:=c3Z bo4
   have f31:=f3 1
   clear hy4 hg4 q1 q2 bo4 bs4 f3
   refine hK.out _ _ (SX.both trivial hs4.out) ?_
   clear hK K'
   (try simp only [Act.put,lsA,lsZ,lsN])
   refine wX1 (j:=10) (by decide +kernel) rfl (fun K' hK=>?_)
   go_simp
   refine hK.out _ _ (SX.both trivial hs4.out) ?_
   clear hK K'
   (try simp only [Act.put,lsA,lsZ,lsN])
   refine wX1 (j:=11) (by decide +kernel) rfl (fun K' hK=>?_)
   go_simp
   refine hK.out _ _ (SX.one trivial (by kernel_rfl)) ?_
   clear hK K'
   (try simp only [Act.put,lsA,lsZ,lsN])
   refine wXd (by decide +kernel) ?_
   have R5:Hid (PI w2 ob L0 ((p.right.take (k+1)).map fun s=>(s.1,(f s).getD 0)) a4 c4 (w4.setCell ⟨ob,1,none⟩ (.slice a4 (R++[(y1,nn)]).length c4))):=by
    show PI _ _ _ _ _ _ _
    rw [HT.out]
    exact ⟨hSt H4.out.2.1 1 _,H4.out.1.kept fun j hj=>Below.heap_setCell _ _ _ _ (fun e=>by subst e;exact sy_ne7 H4.out.1 H4.out.2.1 (by decide) hj),H4.out.2.2.1,PC.out.lo,H4.out.2.2.2.setCell (p:=⟨ob,1,none⟩) PC.out.lo _⟩
   clear f0 f1 f2 f31
   go_wp2
   go_roundw
   case rel =>
    have e:R.length+1=(R++[(y1,nn)]).length:=by simp
    refine ⟨k+1,a4,c4,by omega,by go_num,?_⟩
    rw [e]
    exact R5.out
   case measure=>simp [intOf];omega
  ·obtain rfl:k=p.right.length:=by omega
   have PE:Hid (PI w2 ob L0 (p.right.map fun s=>(s.1,(f s).getD 0)) a c wr):=by
    have:=HI.out
    rw [List.take_length] at this
    exact this
   have bx:wr.heap[w.heap.size]?=some (.cells #[.int .i64 p.left,.slice p.ra p.right.length p.rc,.int .i64 p.prec] 68):=(hI.bel.block _ (lt_of_block B2.out.2.1)).trans B2.out.2.1
   obtain ⟨x0,x1,x2,x3⟩:=c3Z bx
   clear HI hI bw bx
   generalize hR:(p.right.map fun s=>(s.1,(f s).getD 0))=R at *
   have HRR:Hid ((p.right.map fun s=>(s.1,(f s).getD 0))=R):=hR
   clear hR
   have LKT:Hid (∀ wq,PI w2 ob L0 R a c wq->(Instr.lookup 82 (.map (some mb)) (.agg #[.int .i64 1,.int .i64 p.prec]) true).run Tryz.prog wq=.ok (.tuple #[.int .i64 ((f (1,p.prec)).getD 0),.bool (f (1,p.prec)).isSome]) wq):=fun wq h1=>(HM.out wq (B2.out.1.trans (h1.bel.mono B2.out.1.size))).look (by unfold wfI;decide) HW.out.2.1
   have FIN:Hid (∀ wq (P:Int),(f (1,p.prec)).getD (-1)=P->wq.heap[ob]?=some (.cells #[.int .i64 L0,.slice a R.length c,.int .i64 P] 68)->SY wq (.slice a R.length c) R->(∀ j,(Value.slice a R.length c).ownBlock=some j->w2.heap.size<=j)->Below w2.heap.size w2 wq->(∃ q:PV,(.agg #[.int .i64 L0,.slice a R.length c,.int .i64 P]:Value)=.agg #[.int .i64 q.left,.slice q.ra q.right.length q.rc,.int .i64 q.prec]/\q.core=prU7 f p/\SY (((wq.setCell ⟨w.heap.size+1,0,none⟩ (.int .i64 L0)).setCell ⟨w.heap.size+1,1,none⟩ (.slice a R.length c)).setCell ⟨w.heap.size+1,2,none⟩ (.int .i64 P)) (.slice q.ra q.right.length q.rc) q.right/\(∀ j,(Value.slice q.ra q.right.length q.rc).ownBlock=some j->w.heap.size<=j)/\Below w.heap.size w (((wq.setCell ⟨w.heap.size+1,0,none⟩ (.int .i64 L0)).setCell ⟨w.heap.size+1,1,none⟩ (.slice a R.length c)).setCell ⟨w.heap.size+1,2,none⟩ (.int .i64 P)))):=fun wq P hP _ h2 h3 h4=>by
    have hw2:=lt_of_block B2.out.2.2
    have hne:∀ j,(Value.slice a R.length c).ownBlock=some j->j≠w.heap.size+1:=fun j hj e=>by have:=h3 j hj;omega
    have k1:∀ j,(Value.slice a R.length c).ownBlock=some j->(((wq.setCell ⟨w.heap.size+1,0,none⟩ (.int .i64 L0)).setCell ⟨w.heap.size+1,1,none⟩ (.slice a R.length c)).setCell ⟨w.heap.size+1,2,none⟩ (.int .i64 P)).heap[j]?=wq.heap[j]?:=fun j hj=>(Below.heap_setCell _ _ _ _ (hne j hj)).trans ((Below.heap_setCell _ _ _ _ (hne j hj)).trans (Below.heap_setCell _ _ _ _ (hne j hj)))
    have bq:=B2.out.1.trans (h4.mono B2.out.1.size)
    exact ⟨⟨L0,a,c,R,P⟩,rfl,by rw [<- HLE.out,<- hP,<- HRR.out];rfl,h2.kept k1,fun j hj=>Nat.le_trans B2.out.1.size (h3 j hj),((bq.setCell (p:=⟨w.heap.size+1,0,none⟩) (Nat.le_succ _) _).setCell (p:=⟨w.heap.size+1,1,none⟩) (Nat.le_succ _) _).setCell (p:=⟨w.heap.size+1,2,none⟩) (Nat.le_succ _) _⟩
   obtain ⟨fx,hfx⟩:∃ fx,f (1,p.prec)=fx:=⟨_,rfl⟩
   rw [hfx] at LKT FIN
   clear hfx
   cases fx with
   | none =>
    go_wp2_with (go_at_call 70;refine (term_P _ _).mono ?_;rintro e wt ⟨rfl,bt⟩;have PT:Hid (PI w2 ob L0 R a c wt):=PE.out.any bt;have lk:=LKT.out wt PT.out;have RB:Hid (wt.heap[w.heap.size+1]?=some (.cells #[.int .i64 0,.slice none 0 0,.int .i64 0] 68)):=(PT.out.bel.block _ (lt_of_block B2.out.2.2)).trans B2.out.2.2;obtain ⟨g0,g1,g2,g3⟩:=c3Z PT.out.box;obtain ⟨r0,r1,r2,r3⟩:=c3Z RB.out;have r30:=r3 0;have r31:=r3 1;have r32:=r3 2;clear bt r3 g3)
    refine bodyPost_ret (v:=.agg #[.int .i64 L0,.slice a R.length c,.int .i64 (-1)]) (by simp [results,Tryz.results94,go_sem,r0,r1,r2]) rfl ?_
    obtain ⟨q,e1,e2⟩:=FIN.out wt (-1) rfl PT.out.box PT.out.sy PT.out.own PT.out.bel
    exact ⟨q,by rw [e1],e2⟩
   | some y =>
    go_wp2_with (go_at_call 70;refine (term_P _ _).mono ?_;rintro e wt ⟨rfl,bt⟩;have PT:Hid (PI w2 ob L0 R a c wt):=PE.out.any bt;have lk:=LKT.out wt PT.out;have RB:Hid (wt.heap[w.heap.size+1]?=some (.cells #[.int .i64 0,.slice none 0 0,.int .i64 0] 68)):=(PT.out.bel.block _ (lt_of_block B2.out.2.2)).trans B2.out.2.2;obtain ⟨g0,g1,g2,g3⟩:=c3Z PT.out.box;have g32:=g3 2;have ONE:w.heap.size+1≠ob:=(by have:=lt_of_block B2.out.2.2;have:=HOB.out;omega);have ub:(wt.setCell ⟨ob,2,none⟩ (.int .i64 y)).heap[w.heap.size+1]?=some (.cells #[.int .i64 0,.slice none 0 0,.int .i64 0] 68):=(Below.heap_setCell _ _ _ _ ONE).trans RB.out;have uo:(wt.setCell ⟨ob,2,none⟩ (.int .i64 y)).heap[ob]?=some (.cells #[.int .i64 L0,.slice a R.length c,.int .i64 y] 68):=hSt PT.out.box 2 _;obtain ⟨v0,v1,v2,v3⟩:=c3Z uo;obtain ⟨r0,r1,r2,r3⟩:=c3Z ub;have r30:=r3 0;have r31:=r3 1;have r32:=r3 2;clear bt r3 g3 v3 ONE)
    refine bodyPost_ret (v:=.agg #[.int .i64 L0,.slice a R.length c,.int .i64 y]) (by simp [results,Tryz.results94,go_sem,r0,r1,r2]) rfl ?_
    obtain ⟨q,e1,e2⟩:=FIN.out _ y rfl uo (PT.out.sy.kept fun j hj=>Below.heap_setCell _ _ _ _ (fun e=>by subst e;exact sy_ne7 PT.out.sy PT.out.box (by decide) hj)) PT.out.own (PT.out.bel.setCell (p:=⟨ob,2,none⟩) PT.out.lo _)
    exact ⟨q,by rw [e1],e2⟩
theorem wpList_callF {ops:Array Oper}{rest:List Oper}{o:Oper}{a:Act}{Q:Exit->Act->World->Prop}{w:World}{F:FuncId}{cap:Array Value}{R:Ending->World->Prop}(hg:o.guard=none)(x x0:Operand)(t0:TypeId)(hop:o.op=Op.call { callee:=Callee.value x,args:=#[x0],argTypes:=#[t0] })(hE:EntF F)(v0:Value)(hx:a.eval x=.func (.func F) #[] cap)(h0:a.eval x0=v0)(hC:Calls Tryz.prog F (#[v0]++cap) w R)
  (hK:∀ e w',R e w'->∃ v,e=.returned v/\wpList Tryz.prog ops Q rest (a.put o.dst v) w'):wpList Tryz.prog ops Q (o :: rest) a w:=by
 refine wpList_plain hg fun K' hK'=>?_
 show o.upon Tryz.prog a K' Q ((execOp a.eval o).run Tryz.prog w)
 rw [run_fn1 hE hop hx h0 w,Oper.upon_enter]
 refine hC.mono fun e w' hR=>?_
 obtain ⟨v,rfl,hk⟩:=hK e w' hR
 exact hK' _ _ hk
theorem filter_take7 {C:PV->Bool}{f:Int×Int->Option Int}{ps:List PV}{k:Nat}(hk:k < ps.length):((ps.take (k+1)).filter C).map (prU7 f)=((ps.take k).filter C).map (prU7 f)++if C (ps.getD k .none)=true then [prU7 f (ps.getD k .none)] else []:=by
 have e:ps.take (k+1)=ps.take k++[ps.getD k .none]:=by
  rw [List.take_add_one,List.getElem?_eq_getElem hk,List.getD_eq_getElem?_getD,List.getElem?_eq_getElem hk]
  rfl
 rw [e,List.filter_append,List.map_append]
 congr 1
 by_cases h:C (ps.getD k .none)=true
 ·rw [if_pos h,List.filter_cons_of_pos h];rfl
 ·rw [if_neg h,List.filter_cons_of_neg h];rfl
theorem prods_P (mb:Nat)(f:Int×Int->Option Int)(g:GV)(C:PV->Bool)(F:FuncId)(cap:Array Value)(w:World)(hm:MI w mb f)(hfg:FG w g)(hC:CntF g C w F cap)(hp:∀ p∈g.ps,wfI p.prec) :
  Calls Tryz.prog 71 #[.map (some mb),.slice g.pa g.ps.length g.pc,.func (.func F) #[] cap] w fun e w'=>∃ v l',e=.returned v/\PO w.heap.size w' v l'/\l'.map PV.core=(g.ps.filter C).map (prU7 f)/\Below w.heap.size w w':=by
 have HM:Hid (∀ w',Below w.heap.size w w'->MI w' mb f):=fun w' hb=>hm.later hb
 have HFG:Hid (∀ w',Below w.heap.size w w'->FG w' g):=fun w' hb=>hfg.later hb
 have HC:Hid (CntF g C w F cap):=hC
 have HP:Hid (∀ p∈g.ps,wfI p.prec):=hp
 have hpl:=hfg.pl
 clear hm hfg hC hp
 go_enter Tryz.func71,Tryz.ntmps71
 go_wp2
 go_loopw [7,12] (fun v i wr=>∃ (k:Nat) (l':List PV),k<=g.ps.length/\i=.int .i64 k/\PO w.heap.size wr v l'/\l'.map PV.core=((g.ps.take k).filter C).map (prU7 f)/\l'.length<=k/\Below w.heap.size w wr) (fun _ i _=>g.ps.length - (intOf i).toNat)
 case atStart=>exact ⟨0,[],Nat.zero_le _,rfl,PO.nil _ _,rfl,Nat.le_refl _,Below.refl _ _⟩
 case round =>
  obtain ⟨k,l',hk,rfl,hO,hcore,hll,hB⟩:=hrel
  obtain ⟨va,vc,rfl⟩:=PY.len hO.row
  have HO:Hid (PO w.heap.size wr (.slice va l'.length vc) l'/\Below w.heap.size w wr):=⟨hO,hB⟩
  by_cases hlt:k < g.ps.length
  ·obtain ⟨b,o,hpa,hbl,hc⟩:=(HFG.out _ hB).p.cells (by intro e;rw [e] at hlt;simp at hlt)
   obtain ⟨c0,c1,c2⟩:=hc k hlt
   have klt:(k:Int) < (g.ps.length:Int):=by omega
   have hmem:g.ps.getD k .none∈g.ps:=by simp [List.getD,hlt]
   have hleft:=(HFG.out _ hB).left _ hmem
   have hrow:=(HFG.out _ hB).p.rows _ hmem
   have hrl:=(HFG.out _ hB).rl _ hmem
   have hsy:=(HFG.out _ hB).sym _ hmem
   have hnl:=(HFG.out _ hB).nl.2
   have htl:=(HFG.out _ hB).tl.2
   have hpr:=HP.out _ hmem
   have CO:Hid (∀ l2:List PV,l2.map PV.core=l'.map PV.core++(if C (g.ps.getD k .none)=true then [prU7 f (g.ps.getD k .none)] else [])->l2.map PV.core=((g.ps.take (k+1)).filter C).map (prU7 f)):=fun l2 e=>by rw [e,hcore,filter_take7 hlt]
   generalize g.ps.getD k .none=p at *
   obtain ⟨wb,hwb⟩:∃ wb:World,wb=wr.alloc (.cells #[.int .i64 p.left,.slice p.ra p.right.length p.rc,.int .i64 p.prec] 68):=⟨_,rfl⟩
   have bb:Below wr.heap.size wr wb:=by rw [hwb];exact bAl _ _
   have ST:Hid (Calls Tryz.prog F (#[.agg #[.int .i64 p.left,.slice p.ra p.right.length p.rc,.int .i64 p.prec]]++cap) wb fun e w'=>e=.returned (.bool (C p))/\Below wb.heap.size wb w'):=HC.out.2 wb p (hB.trans (bb.mono hB.size)) hmem
   have PR:Hid (∀ wq,Below wr.heap.size wr wq->Calls Tryz.prog 94 #[.map (some mb),.agg #[.int .i64 p.left,.slice p.ra p.right.length p.rc,.int .i64 p.prec]] wq fun e w'=>∃ q:PV,e=.returned (.agg #[.int .i64 q.left,.slice q.ra q.right.length q.rc,.int .i64 q.prec])/\q.core=prU7 f p/\SY w' (.slice q.ra q.right.length q.rc) q.right/\(∀ j,(Value.slice q.ra q.right.length q.rc).ownBlock=some j->wq.heap.size<=j)/\Below wq.heap.size wq w'):=fun wq hq =>
    prod_P mb f p wq (HM.out wq (hB.trans (hq.mono hB.size))) (hrow.later (Nat.le_refl _) hq) (by omega) (wf_small (by omega) (by omega)) hpr (fun s hs=>by rcases hsy s hs with z | z<;>exact ⟨wf_small (by omega) (by omega),wf_small (by omega) (by omega)⟩)
   have BX:Hid (Below wr.heap.size wr wb/\wb.heap[wr.heap.size]?=some (.cells #[.int .i64 p.left,.slice p.ra p.right.length p.rc,.int .i64 p.prec] 68)):=⟨bb,by rw [hwb];exact heap_alloc_new _ _⟩
   obtain ⟨d0,d1,d2,d3⟩:=c3Z BX.out.2
   obtain ⟨cv,hcv⟩:∃ cv,C p=cv:=⟨_,rfl⟩
   rw [hcv] at ST CO
   clear hc hbl hmem hleft hrow hrl hsy hpr hO hB hcore bb d3 hcv
   rw [hpa]
   clear hpa
   subst hwb
   cases cv
   ·go_wp2_with (refine wpList_callF rfl _ _ _ rfl HC.out.1 (.agg #[.int .i64 p.left,.slice p.ra p.right.length p.rc,.int .i64 p.prec]) rfl rfl ST.out ?_;rintro e w4 ⟨rfl,b4⟩;refine ⟨_,rfl,?_⟩;have B4:Hid (PO w.heap.size w4 (.slice va l'.length vc) l'/\Below w.heap.size w w4):=⟨(HO.out.1.later BX.out.1).later b4,(HO.out.2.trans (BX.out.1.mono HO.out.2.size)).trans (b4.mono (HO.out.2.trans (BX.out.1.mono HO.out.2.size)).size)⟩;clear b4)
    have R:Hid (l'.map PV.core=((g.ps.take (k+1)).filter C).map (prU7 f)):=CO.out l' (by simp)
    go_wp2
    go_roundw
    case rel=>exact ⟨k+1,l',by omega,by go_num,B4.out.1,R.out,by omega,B4.out.2⟩
    case measure=>simp [intOf];omega
   ·have HLT:Hid (l'.length<=2000000):=by show _<=_;omega
    go_wp2_with (first
     | (go_at_call 94;refine (PR.out w4 B4.out.1).mono ?_;rintro e w5 ⟨q,rfl,hq,sq,oq,b5⟩;have B5:Hid (q.core=prU7 f p/\SY w5 (.slice q.ra q.right.length q.rc) q.right/\(∀ j,(Value.slice q.ra q.right.length q.rc).ownBlock=some j->w4.heap.size<=j)/\Below w4.heap.size w4 w5):=⟨hq,sq,oq,b5⟩;clear hq sq oq b5)
     | (at_builtin;refine wpList_PY_append rfl _ _ rfl (.slice va l'.length vc) l' rfl (((HO.out.1.later B4.out.1).later B5.out.2.2.2).later (bAl _ _)).row _ 1 q rfl (fun j u hu=>by rcases j with _ | _ | _ | j<;>simp at hu<;>subst hu<;>simp) HLT.out ?_;intro a6 n6 c6 w6 ho6 hg6)
     | (refine wpList_callF rfl _ _ _ rfl HC.out.1 (.agg #[.int .i64 p.left,.slice p.ra p.right.length p.rc,.int .i64 p.prec]) rfl rfl ST.out ?_;rintro e w4 ⟨rfl,b4⟩;refine ⟨_,rfl,?_⟩;have B4:Hid (Below wr.heap.size wr w4/\w4.heap[wr.heap.size]?=some (.cells #[.int .i64 p.left,.slice p.ra p.right.length p.rc,.int .i64 p.prec] 68)):=⟨BX.out.1.trans (b4.mono BX.out.1.size),(b4.block _ (lt_of_block BX.out.2)).trans BX.out.2⟩;clear b4 d0 d1 d2;obtain ⟨d0,d1,d2,d3⟩:=c3Z B4.out.2;clear d3))
    have R6:Hid (PO w.heap.size w6 (.slice a6 n6 c6) (l'++[q])/\Below w.heap.size w w6):=by
     have hO:=((HO.out.1.later B4.out.1).later B5.out.2.2.2).later (bAl w5 (.cells #[.int .i64 q.left,.slice q.ra q.right.length q.rc,.int .i64 q.prec] 68))
     have b1:=HO.out.2.trans (B4.out.1.mono HO.out.2.size)
     have b2:=b1.trans (B5.out.2.2.2.mono b1.size)
     have hB:=b2.alloc b2.size (.cells #[.int .i64 q.left,.slice q.ra q.right.length q.rc,.int .i64 q.prec] 68)
     refine ⟨hO.append ho6 hg6 hB.size (B5.out.2.1.later (bAl _ _)) fun j hj=>?_,(gBi hB hO.lo hg6).1⟩
     have hj2:=B5.out.2.2.1 j hj
     have hj3:=B4.out.1.size
     refine ⟨by have:=HO.out.2.size;omega,fun e=>?_,fun x hx e=>?_⟩
     ·have:=HO.out.1.row.lt j e;omega
     ·have:=(HO.out.1.each x hx).lt j e;omega
    have R:Hid ((l'++[q]).map PV.core=((g.ps.take (k+1)).filter C).map (prU7 f)):=CO.out _ (by rw [<- B5.out.1];simp)
    clear ho6 hg6
    go_wp2
    go_roundw
    case rel=>exact ⟨k+1,_,by omega,by go_num,R6.out.1,R.out,by simp;omega,R6.out.2⟩
    case measure=>simp [intOf];omega
  ·obtain rfl:k=g.ps.length:=by omega
   have R:Hid (l'.map PV.core=(g.ps.filter C).map (prU7 f)):=by show _=_;rw [hcore,List.take_length]
   clear hO hB hcore
   go_wp2
   go_ret
   exact ⟨_,l',rfl,HO.out.1,R.out,HO.out.2⟩
end Go.Proofs.YthaamdognbncnaaGreatDoor
