import Derived.Test.YteciabdjkaackaaGreatPTB10ToTB14
namespace Go.Proofs.YteciabdjkaackaaGreat
set_option linter.unusedVariables false
open Go.RowKit
def derU (g:GV)(l:List Int)(L:List (Int×ByteArray)):Nat->DvU->(Int×Int) ⊕ DvU
 | 0,x=>.inr x
 | n+1,x=>if wU_ x.A=true then .inr x else match stepU g l L x with
  | .inl f=>.inl f
  | .inr y=>derU g l L n y
theorem der_ok {g:GV}{l:List Int}{L:List (Int×ByteArray)}(hl:∀ n∈l,0<=n/\n < g.ps.length):∀ (n:Nat) (x y:DvU),OkD2 g l L x->l.length+L.length < n+(x.u+x.r)->derU g l L n x=.inr y->wU_ y.A=true/\OkD2 g l L y
 | 0,x,y,h,hn,_=>by
  have h2:=h.ul
  have h3:=h.rl
  omega
 | n+1,x,y,h,hn,hd=>by
  rw [derU] at hd
  by_cases hw:wU_ x.A=true
  ·rw [if_pos hw] at hd
   cases hd
   exact ⟨hw,h⟩
  ·rw [if_neg hw] at hd
   cases hs:stepU g l L x with
   | inl f=>rw [hs] at hd;cases hd
   | inr z =>
    rw [hs] at hd
    obtain ⟨k1,k2⟩:=ok_step hl h hs
    exact der_ok hl n z y k1 (by omega) hd
def deriveU (g:GV)(l:List Int)(L:List (Int×ByteArray)):Option TV×Int×Int:=match derU g l L (l.length+L.length+1) ⟨0,0,([],[])⟩ with
 | .inl f=>(none,f.1,f.2)
 | .inr y=>if y.u < l.length then (none,81,(y.u:Int)) else if y.r < L.length then (none,12,(y.r:Int)) else (y.A.1.head?,0,0)
abbrev dvBox (g:GV)(pl wl:Value):Obj:=.cells #[.slice g.ta g.ts.length g.tc,.slice g.na g.ns.length g.nc,.int .i64 g.start,.slice g.pa g.ps.length g.pc,.slice g.la g.ls.length g.lc,pl,wl,.int .i64 0,.int .i64 0,.slice none 0 0,.slice none 0 0] 156
theorem bds_start {w0 w:World}{N db:Nat}{g:GV}{pl wl:Value}{RF:Nat->Option Obj}(hB:Below N w0 w)(hN:N<=db)(hb:w.heap[db]?=some (dvBox g pl wl))(hR:∀ j o,RF j=some o->w.heap[j]?=some o/\j≠db):BdS w0 N db 9 (dvO g pl wl 0 0) RF ([],[]) w:=by
 refine ⟨.slice none 0 0,.slice none 0 0,([],[]),⟨⟨rfl,fun i hi=>absurd hi (by simp)⟩,trivial⟩,?_⟩
 refine ⟨hB,Nat.le_trans hN (Nat.le_of_lt (lt_of_block hb)),⟨_,_,hb,by decide,by decide,rfl,rfl⟩,hN,fun o h1 h2=>?_,fun j o hj=>⟨(hR j o hj).1,(hR j o hj).2,(fun e=>by cases e),(fun e=>by cases e)⟩,RO.nil w,RO.nil w,(fun j e=>by cases e),(fun j e=>by cases e),(fun t ht=>by cases ht),(fun a ha=>by cases ha),fun a=>by simp [dlA,ksL,inR]⟩
 rw [cQa hb]
 unfold dvO
 rcases o with _ | _ | _ | _ | _ | _ | _ | _ | _ | _ | _ | o
 all_goals first | rfl | (exfalso;omega) | simp
theorem BdS.bel {w0:World}{N bb bo:Nat}{OC:Nat->Option Value}{RF:Nat->Option Obj}{A:AB}{w:World}(h:BdS w0 N bb bo OC RF A w):Below N w0 w:=by
 obtain ⟨a,b,c,d,e⟩:=h
 exact e.bel
theorem whole_W {w0:World}{N bb bo:Nat}{OC:Nat->Option Value}{RF:Nat->Option Obj}{A:AB}{w:World}(h:BdS w0 N bb bo OC RF A w):Calls Tryz.prog 86 #[.pointer (some ⟨bb,bo,none⟩)] w fun e w'=>e=.returned (.bool (wU_ A))/\w'=w:=by
 obtain ⟨vo,vd,⟨E,T⟩,⟨h1,h2⟩,hM⟩:=h
 obtain ⟨D,S⟩:=A
 have:=whole_B hM
 have e:decide (nlA (E,T)=[]/\dlA (E,T)≠[])=wU_ (D,S):=by
  cases S with
  | nil =>
   cases T with
   | cons g T=>exact h2.elim
   | nil =>
    have hl:=h1.1
    dsimp only at hl
    have e1:nlA (E,[])=[]:=rfl
    have e2:dlA (E,[])=E:=by simp [dlA,ksL]
    rw [e1,e2]
    cases E with
    | nil=>cases D with
     | nil=>rfl
     | cons t D=>simp at hl
    | cons t E=>cases D with
     | nil=>simp at hl
     | cons t D=>simp [wU_]
  | cons f S =>
   cases T with
   | nil=>exact h2.elim
   | cons g T=>rw [nlA_cons];simp [wU_]
 rw [e] at this
 exact this
def dvE (N:Nat)(g:GV)(l:List Int)(L:List (Int×ByteArray))(e:Ending)(w':World):Prop:=match deriveU g l L with
 | (none,e1,at_)=>e=.returned (.tuple #[TV.none.val,.int .i64 e1,.int .i64 at_])
 | (some t,_,_)=>∃ t',samV t' t/\OwT N w' t'/\e=.returned (.tuple #[t'.val,.int .i64 0,.int .i64 0])
theorem step_ne {g:GV}{l:List Int}{L:List (Int×ByteArray)}{x:DvU}{e1 at_:Int}(h:stepU g l L x=.inl (e1,at_)):¬ e1=0:=by
 unfold stepU at h
 split at h
 ·split at h
  ·cases h;decide
  ·split at h
   ·cases h
   ·cases h;decide
 ·split at h
  ·cases h;decide
  ·split at h
   ·cases h
   ·cases h;decide
set_option linter.unusedSimpArgs false in
set_option maxRecDepth 100000 in
set_option maxHeartbeats 4000000 in
theorem derive_W {w:World}{g:GV}{pa wa:Option Addr}{pc wc:Nat}{l:List Int}{L:List (Int×ByteArray)}(hne:l≠[])(hl:∀ n∈l,0<=n/\n < g.ps.length)(hg:GAt 140737488355328 w g)(hli:InRow w pa l)(hLi:TkRow w wa L)(hb:l.length<=400000000)(hB:L.length<=400000000):Calls Tryz.prog 70 #[g.val,.slice pa l.length pc,.slice wa L.length wc] w fun e w'=>Below w.heap.size w w'/\dvE w.heap.size g l L e w':=by
 obtain ⟨W1,hW1⟩:∃ W1:World,W1=((w.alloc (gBox g)).alloc zTrB).alloc (dvBox g (.slice pa l.length pc) (.slice wa L.length wc)):=⟨_,rfl⟩
 have HW1:Hid (W1=((w.alloc (gBox g)).alloc zTrB).alloc (dvBox g (.slice pa l.length pc) (.slice wa L.length wc))):=hW1
 clear hW1
 have HBW:Hid (∀ w',Below (w.heap.size+1+1) W1 w'->Below w.heap.size w w'/\w'.heap[w.heap.size+1]?=some zTrB):=fun w' hb=>by
  have b1:=bAl w (gBox g)
  obtain ⟨h1,h2,h3⟩:=two_allocT (w.alloc (gBox g)) zTrB (dvBox g (.slice pa l.length pc) (.slice wa L.length wc))
  have hz:(w.alloc (gBox g)).heap.size=w.heap.size+1:=by simp
  rw [hz] at h2 h3
  have b2:=b1.trans (h1.mono b1.size)
  rw [<- HW1.out] at h2 b2
  exact ⟨b2.trans (hb.mono (by omega)),(hb.block _ (by omega)).trans h2⟩
 have HST:Hid (∀ (w':World) (db:Nat) (RF:Nat->Option Obj) (x:DvU),Below w.heap.size w w'->BdS W1 (w.heap.size+1+1) db 9 (dvO g (.slice pa l.length pc) (.slice wa L.length wc) (x.u:Int) (x.r:Int)) RF x.A w'->OkD2 g l L x->(∀ e1 at_,stepU g l L x=.inl (e1,at_)->Calls Tryz.prog 87 #[.pointer (some ⟨db,0,none⟩)] w' fun e w''=>e=.returned (.tuple #[.int .i64 e1,.int .i64 at_])/\BdS W1 (w.heap.size+1+1) db 9 (dvO g (.slice pa l.length pc) (.slice wa L.length wc) (x.u:Int) (x.r:Int)) RF x.A w'') /\
  (∀ y,stepU g l L x=.inr y->Calls Tryz.prog 87 #[.pointer (some ⟨db,0,none⟩)] w' fun e w''=>e=.returned (.tuple #[.int .i64 0,.int .i64 0])/\BdS W1 (w.heap.size+1+1) db 9 (dvO g (.slice pa l.length pc) (.slice wa L.length wc) (y.u:Int) (y.r:Int)) RF y.A w'')):=fun w' db RF x hbw h ok=>step_W h ok hne hl (hg.later hbw) (hli.later hbw) (hLi.later hbw) hb hB
 clear hg hli hLi
 have HDO:Hid (∀ n x y,OkD2 g l L x->l.length+L.length < n+(x.u+x.r)->derU g l L n x=.inr y->wU_ y.A=true/\OkD2 g l L y):=der_ok hl
 have HOS:Hid (∀ x y,OkD2 g l L x->stepU g l L x=.inr y->OkD2 g l L y/\y.u+y.r=x.u+x.r+1):=fun x y=>ok_step hl
 have S0:Hid (BdS W1 (w.heap.size+1+1) (w.heap.size+1+1) 9 (dvO g (.slice pa l.length pc) (.slice wa L.length wc) 0 0) (fun _=>none) ([],[]) W1):=by
  obtain ⟨h1,h2,h3⟩:=two_allocT (w.alloc (gBox g)) zTrB (dvBox g (.slice pa l.length pc) (.slice wa L.length wc))
  have hz:(w.alloc (gBox g)).heap.size=w.heap.size+1:=by simp
  rw [hz] at h2 h3
  rw [<- HW1.out] at h3
  exact bds_start (Below.refl _ _) (Nat.le_refl _) h3 fun j o hj=>by cases hj
 clear hl
 go_enter Tryz.func70,Tryz.ntmps70
 go_wp2
 refine wp_world (fun w'=>w'=W1) HW1.out.symm fun w1 h1=>?_
 obtain rfl:=h1
 have H1:Hid (BdS w1 (w.heap.size+1+1) (w.heap.size+1+1) 9 (dvO g (.slice pa l.length pc) (.slice wa L.length wc) 0 0) (fun _=>none) ([],[]) w1):=S0.out
 clear S0 HW1
 go_loopg [] (l.length+L.length+2) (fun gk wr=>∃ n x,BdS w1 (w.heap.size+1+1) (w.heap.size+1+1) 9 (dvO g (.slice pa l.length pc) (.slice wa L.length wc) (x.u:Int) (x.r:Int)) (fun _=>none) x.A wr/\OkD2 g l L x/\derU g l L n x=derU g l L (l.length+L.length+1) ⟨0,0,([],[])⟩/\l.length+L.length < n+(x.u+x.r)/\n < gk)
 case atStart=>exact ⟨l.length+L.length+1,⟨0,0,([],[])⟩,H1.out,ok_start g l L,rfl,by dsimp only;omega,by omega⟩
 case round =>
  clear H1
  obtain ⟨n,x,hBd,hO,hd,hn,hgk⟩:=hrel
  have HB9:Hid (BdS w1 (w.heap.size+1+1) (w.heap.size+1+1) 9 (dvO g (.slice pa l.length pc) (.slice wa L.length wc) (x.u:Int) (x.r:Int)) (fun _=>none) x.A wr):=hBd
  have CW:Hid (Calls Tryz.prog 86 #[.pointer (some ⟨w.heap.size+1+1,9,none⟩)] wr fun e w'=>e=.returned (.bool (wU_ x.A))/\w'=wr):=whole_W hBd
  cases n with
  | zero =>
   have h2:=hO.ul
   have h3:=hO.rl
   omega
  | succ n =>
   rw [derU] at hd
   have HGN:Hid (n+1 < gk):=hgk
   have HO:Hid (OkD2 g l L x/\l.length+L.length < n+1+(x.u+x.r)):=⟨hO,hn⟩
   cases hw:wU_ x.A with
   | true =>
    rw [if_pos hw] at hd
    rw [hw] at CW
    have HUL:deriveU g l L=if x.u < l.length then (none,81,(x.u:Int)) else if x.r < L.length then (none,12,(x.r:Int)) else (x.A.1.head?,0,0):=by
     unfold deriveU
     rw [<- hd]
    have HWH:Hid (x.A.2=[]/\x.A.1≠[]):=by
     show _/\_
     unfold wU_ at hw
     simp only [Bool.and_eq_true,Bool.not_eq_true',List.isEmpty_iff,List.isEmpty_eq_false_iff] at hw
     exact hw
    have c7:wr.cell? ⟨w.heap.size+1+1,7,none⟩=some (.int .i64 (x.u:Int)):=HB9.out.oc (o:=7) (by omega) (by omega)
    have c8:wr.cell? ⟨w.heap.size+1+1,8,none⟩=some (.int .i64 (x.r:Int)):=HB9.out.oc (o:=8) (by omega) (by omega)
    clear hd hw hO hn hBd hgk
    by_cases hu:x.u < l.length
    ·rw [if_pos hu] at HUL
     have HU:Hid (deriveU g l L=(none,81,(x.u:Int))):=HUL
     clear HUL
     go_upto_region 7 with (go_at_call 86;refine CW.out.mono ?_;rintro e w2 ⟨rfl,q⟩;obtain rfl:=q.symm)
     refine wp_world (fun w'=>Below w.heap.size w w'/\w'.heap[w.heap.size+1]?=some zTrB/\w'.cell? ⟨w.heap.size+1+1,7,none⟩=some (.int .i64 (x.u:Int))) ⟨(HBW.out _ HB9.out.bel).1,(HBW.out _ HB9.out.bel).2,c7⟩ fun w4 h4=>?_
     have H4:Hid (Below w.heap.size w w4/\w4.heap[w.heap.size+1]?=some zTrB):=⟨h4.1,h4.2.1⟩
     clear c7 c8 CW HB9 HST HDO HOS HO
     obtain ⟨wd,hwd⟩:∃ wd:World,wd=w4.drew:=⟨_,rfl⟩
     have c7:=h4.2.2
     have H5:Hid (Below w.heap.size w (w4.setCells (w.heap.size+1) 0 [.int .i64 0,.int .i64 0,.string ⟨#[]⟩,.slice none 0 0]).drew/\(w4.setCells (w.heap.size+1) 0 [.int .i64 0,.int .i64 0,.string ⟨#[]⟩,.slice none 0 0]).drew.heap[w.heap.size+1]?=some zTrB):=⟨(setCs_bel (Nat.le_add_right _ _) _ _ _ H4.out.1).drew,setCs_fourB H4.out.2⟩
     have f0:∀ i,w4.frozen? ⟨w.heap.size+1,i,none⟩=false:=fun i=>by simp [World.frozen?,H4.out.2]
     have f00:=f0 0
     have f01:=f0 1
     have f02:=f0 2
     have f03:=f0 3
     have z0:w4.cell? ⟨w.heap.size+1,0,none⟩=some (.int .i64 0):=(cQa H4.out.2).trans rfl
     have z1:w4.cell? ⟨w.heap.size+1,1,none⟩=some (.int .i64 0):=(cQa H4.out.2).trans rfl
     have z2:w4.cell? ⟨w.heap.size+1,2,none⟩=some (.string ⟨#[]⟩):=(cQa H4.out.2).trans rfl
     have z3:w4.cell? ⟨w.heap.size+1,3,none⟩=some (.slice none 0 0):=(cQa H4.out.2).trans rfl
     clear f0 h4 hwd
     generalize (x.u:Int)=xu at *
     generalize w.heap.size+1+1=db at *
     go_region
     change Exit.then _ _ _ _ (w4.setCells (w.heap.size+1) 0 [.int .i64 0,.int .i64 0,.string ⟨#[]⟩,.slice none 0 0]).drew
     generalize (w4.setCells (w.heap.size+1) 0 [.int .i64 0,.int .i64 0,.string ⟨#[]⟩,.slice none 0 0]).drew=w5 at *
     clear H4 f00 f01 f02 f03 z0 z1 z2 z3 c7
     have x0:w5.cell? ⟨w.heap.size+1,0,none⟩=some (.int .i64 0):=(cQa H5.out.2).trans rfl
     have x1:w5.cell? ⟨w.heap.size+1,1,none⟩=some (.int .i64 0):=(cQa H5.out.2).trans rfl
     have x2:w5.cell? ⟨w.heap.size+1,2,none⟩=some (.string ⟨#[]⟩):=(cQa H5.out.2).trans rfl
     have x3:w5.cell? ⟨w.heap.size+1,3,none⟩=some (.slice none 0 0):=(cQa H5.out.2).trans rfl
     go_wp2
     refine bodyPost_ret (v:=.tuple #[.agg #[.int .i64 0,.int .i64 0,.string ⟨#[]⟩,.slice none 0 0],.int .i64 81,.int .i64 xu]) (by simp [results,Tryz.results70,go_sem,x0,x1,x2,x3]) rfl ?_
     refine ⟨H5.out.1,?_⟩
     unfold dvE
     rw [HU.out]
     rfl
    ·rw [if_neg hu] at HUL
     by_cases hr:x.r < L.length
     ·rw [if_pos hr] at HUL
      have HU:Hid (deriveU g l L=(none,12,(x.r:Int))):=HUL
      clear HUL
      go_upto_region 9 with (go_at_call 86;refine CW.out.mono ?_;rintro e w2 ⟨rfl,q⟩;obtain rfl:=q.symm)
      refine wp_world (fun w'=>Below w.heap.size w w'/\w'.heap[w.heap.size+1]?=some zTrB/\w'.cell? ⟨w.heap.size+1+1,8,none⟩=some (.int .i64 (x.r:Int))) ⟨(HBW.out _ HB9.out.bel).1,(HBW.out _ HB9.out.bel).2,c8⟩ fun w4 h4=>?_
      have H4:Hid (Below w.heap.size w w4/\w4.heap[w.heap.size+1]?=some zTrB):=⟨h4.1,h4.2.1⟩
      clear c7 c8 CW HB9 HST HDO HOS HO
      obtain ⟨wd,hwd⟩:∃ wd:World,wd=w4.drew:=⟨_,rfl⟩
      have c7:=h4.2.2
      have H5:Hid (Below w.heap.size w (w4.setCells (w.heap.size+1) 0 [.int .i64 0,.int .i64 0,.string ⟨#[]⟩,.slice none 0 0]).drew/\(w4.setCells (w.heap.size+1) 0 [.int .i64 0,.int .i64 0,.string ⟨#[]⟩,.slice none 0 0]).drew.heap[w.heap.size+1]?=some zTrB):=⟨(setCs_bel (Nat.le_add_right _ _) _ _ _ H4.out.1).drew,setCs_fourB H4.out.2⟩
      have f0:∀ i,w4.frozen? ⟨w.heap.size+1,i,none⟩=false:=fun i=>by simp [World.frozen?,H4.out.2]
      have f00:=f0 0
      have f01:=f0 1
      have f02:=f0 2
      have f03:=f0 3
      have z0:w4.cell? ⟨w.heap.size+1,0,none⟩=some (.int .i64 0):=(cQa H4.out.2).trans rfl
      have z1:w4.cell? ⟨w.heap.size+1,1,none⟩=some (.int .i64 0):=(cQa H4.out.2).trans rfl
      have z2:w4.cell? ⟨w.heap.size+1,2,none⟩=some (.string ⟨#[]⟩):=(cQa H4.out.2).trans rfl
      have z3:w4.cell? ⟨w.heap.size+1,3,none⟩=some (.slice none 0 0):=(cQa H4.out.2).trans rfl
      clear f0 h4 hwd
      generalize (x.r:Int)=xu at *
      generalize w.heap.size+1+1=db at *
      go_region
      change Exit.then _ _ _ _ (w4.setCells (w.heap.size+1) 0 [.int .i64 0,.int .i64 0,.string ⟨#[]⟩,.slice none 0 0]).drew
      generalize (w4.setCells (w.heap.size+1) 0 [.int .i64 0,.int .i64 0,.string ⟨#[]⟩,.slice none 0 0]).drew=w5 at *
      clear H4 f00 f01 f02 f03 z0 z1 z2 z3 c7
      have x0:w5.cell? ⟨w.heap.size+1,0,none⟩=some (.int .i64 0):=(cQa H5.out.2).trans rfl
      have x1:w5.cell? ⟨w.heap.size+1,1,none⟩=some (.int .i64 0):=(cQa H5.out.2).trans rfl
      have x2:w5.cell? ⟨w.heap.size+1,2,none⟩=some (.string ⟨#[]⟩):=(cQa H5.out.2).trans rfl
      have x3:w5.cell? ⟨w.heap.size+1,3,none⟩=some (.slice none 0 0):=(cQa H5.out.2).trans rfl
      go_wp2
      refine bodyPost_ret (v:=.tuple #[.agg #[.int .i64 0,.int .i64 0,.string ⟨#[]⟩,.slice none 0 0],.int .i64 12,.int .i64 xu]) (by simp [results,Tryz.results70,go_sem,x0,x1,x2,x3]) rfl ?_
      refine ⟨H5.out.1,?_⟩
      unfold dvE
      rw [HU.out]
      rfl
     ·rw [if_neg hr] at HUL
      have HU:Hid (deriveU g l L=(x.A.1.head?,0,0)):=HUL
      clear HUL
      have CT:Hid (Calls Tryz.prog 88 #[.pointer (some ⟨w.heap.size+1+1,9,none⟩)] wr fun e w'=>∃ t t',x.A.1.head?=some t'/\samV t t'/\e=.returned t.val/\OwT (w.heap.size+1+1) w' t/\BdS w1 (w.heap.size+1+1) (w.heap.size+1+1) 9 (dvO g (.slice pa l.length pc) (.slice wa L.length wc) (x.u:Int) (x.r:Int)) (fun _=>none) x.A w'):=tree_B HB9.out HWH.out.2 HWH.out.1
      clear HB9 HST HDO HOS HO HWH
      go_upto_region 10 with (go_at_call 86;refine CW.out.mono ?_;rintro e w2 ⟨rfl,q⟩;obtain rfl:=q.symm)
      go_wp2_with (go_at_call 88;refine CT.out.mono ?_;rintro e w3 ⟨t,t',hh,hs,rfl,hOw,hB3⟩;have H3:Hid (Below w.heap.size w w3/\w3.heap[w.heap.size+1]?=some zTrB/\OwT (w.heap.size+1+1) w3 t/\samV t t'/\x.A.1.head?=some t'):=⟨(HBW.out _ hB3.bel).1,(HBW.out _ hB3.bel).2,hOw,hs,hh⟩;clear hh hs hOw hB3 CT c7 c8;have f0:∀ i,w3.frozen? ⟨w.heap.size+1,i,none⟩=false:=(fun i=>by simp [World.frozen?,H3.out.2.1]);have f00:=f0 0;have f01:=f0 1;have f02:=f0 2;have f03:=f0 3;clear f0;have z0:w3.cell? ⟨w.heap.size+1,0,none⟩=some (.int .i64 0):=(cQa H3.out.2.1).trans rfl;have z1:w3.cell? ⟨w.heap.size+1,1,none⟩=some (.int .i64 0):=(cQa H3.out.2.1).trans rfl;have z2:w3.cell? ⟨w.heap.size+1,2,none⟩=some (.string ⟨#[]⟩):=(cQa H3.out.2.1).trans rfl;have z3:w3.cell? ⟨w.heap.size+1,3,none⟩=some (.slice none 0 0):=(cQa H3.out.2.1).trans rfl)
      have H5:Hid (Below w.heap.size w (set4 w3 (w.heap.size+1) 0 t)/\TBx (set4 w3 (w.heap.size+1) 0 t) (w.heap.size+1) 0 t/\OwT w.heap.size (set4 w3 (w.heap.size+1) 0 t) t):=by
       obtain ⟨a1,a2,a3,-,-⟩:=H3.out
       refine ⟨set4_below a1 0 t (by omega),set4_tbx t z0 z1 z2 z3 (lt_of_block a2),?_⟩
       have:=a3.kept (w':=set4 w3 (w.heap.size+1) 0 t) (fun a ha=>set4_other _ _ _ _ _ (by have:=(a3.ty a ha).1;omega)) (by rw [set4_size];exact Nat.le_refl _)
       exact ⟨this.ta,this.cn,fun a ha=>⟨by have:=(this.ty a ha).1;omega,(this.ty a ha).2⟩⟩
      change bodyPost _ _ _ _ _ (set4 w3 (w.heap.size+1) 0 t)
      generalize set4 w3 (w.heap.size+1) 0 t=w5 at *
      have x0:=H5.out.2.1.c0
      have x1:=H5.out.2.1.c1
      have x2:=H5.out.2.1.c2
      have x3:=H5.out.2.1.c3
      simp only [Nat.zero_add] at x1 x2 x3
      refine bodyPost_ret (v:=.tuple #[t.val,.int .i64 0,.int .i64 0]) (by simp [results,Tryz.results70,go_sem,x0,x1,x2,x3]) rfl ?_
      refine ⟨H5.out.1,?_⟩
      unfold dvE
      rw [HU.out,H3.out.2.2.2.2]
      exact ⟨t,H3.out.2.2.2.1,H5.out.2.2,rfl⟩
   | false =>
    rw [if_neg (by rw [hw];decide)] at hd
    rw [hw] at CW
    have HS2:=HST.out wr _ _ x (HBW.out _ hBd.bel).1 hBd hO
    clear hO hn hBd hgk
    cases hs:stepU g l L x with
    | inl f =>
     obtain ⟨e1,at_⟩:=f
     rw [hs] at hd
     have CS:Hid (Calls Tryz.prog 87 #[.pointer (some ⟨w.heap.size+1+1,0,none⟩)] wr fun e w''=>e=.returned (.tuple #[.int .i64 e1,.int .i64 at_])/\BdS w1 (w.heap.size+1+1) (w.heap.size+1+1) 9 (dvO g (.slice pa l.length pc) (.slice wa L.length wc) (x.u:Int) (x.r:Int)) (fun _=>none) x.A w''):=HS2.1 e1 at_ hs
     have HU:Hid (deriveU g l L=(none,e1,at_)):=by show _=_;unfold deriveU;rw [<- hd]
     have hnz:¬ e1=0:=step_ne hs
     clear hd hw HS2 hs HB9 HO
     go_upto_region 5 with (first | (go_at_call 86;refine CW.out.mono ?_;rintro e w2 ⟨rfl,rfl⟩) | (go_at_call 87;refine CS.out.mono ?_;rintro e w3 ⟨rfl,b3⟩;have H3:Hid (BdS w1 (w.heap.size+1+1) (w.heap.size+1+1) 9 (dvO g (.slice pa l.length pc) (.slice wa L.length wc) (x.u:Int) (x.r:Int)) (fun _=>none) x.A w3):=b3;clear b3))
     refine wp_world (fun w'=>Below w.heap.size w w'/\w'.heap[w.heap.size+1]?=some zTrB) (HBW.out _ H3.out.bel) fun w4 h4=>?_
     have H4:Hid (Below w.heap.size w w4/\w4.heap[w.heap.size+1]?=some zTrB):=h4
     clear h4 H3 CW CS HST HDO HOS
     have H5:Hid (Below w.heap.size w (w4.setCells (w.heap.size+1) 0 [.int .i64 0,.int .i64 0,.string ⟨#[]⟩,.slice none 0 0])/\(w4.setCells (w.heap.size+1) 0 [.int .i64 0,.int .i64 0,.string ⟨#[]⟩,.slice none 0 0]).heap[w.heap.size+1]?=some zTrB):=⟨setCs_bel (Nat.le_add_right _ _) _ _ _ H4.out.1,setCs_fourB H4.out.2⟩
     have f0:∀ i,w4.frozen? ⟨w.heap.size+1,i,none⟩=false:=fun i=>by simp [World.frozen?,H4.out.2]
     have f00:=f0 0
     have f01:=f0 1
     have f02:=f0 2
     have f03:=f0 3
     have z0:w4.cell? ⟨w.heap.size+1,0,none⟩=some (.int .i64 0):=(cQa H4.out.2).trans rfl
     have z1:w4.cell? ⟨w.heap.size+1,1,none⟩=some (.int .i64 0):=(cQa H4.out.2).trans rfl
     have z2:w4.cell? ⟨w.heap.size+1,2,none⟩=some (.string ⟨#[]⟩):=(cQa H4.out.2).trans rfl
     have z3:w4.cell? ⟨w.heap.size+1,3,none⟩=some (.slice none 0 0):=(cQa H4.out.2).trans rfl
     clear H4 f0
     go_wp2
     change bodyPost _ _ _ _ _ (w4.setCells (w.heap.size+1) 0 [.int .i64 0,.int .i64 0,.string ⟨#[]⟩,.slice none 0 0])
     generalize w4.setCells (w.heap.size+1) 0 [.int .i64 0,.int .i64 0,.string ⟨#[]⟩,.slice none 0 0]=w5 at *
     have x0:w5.cell? ⟨w.heap.size+1,0,none⟩=some (.int .i64 0):=(cQa H5.out.2).trans rfl
     have x1:w5.cell? ⟨w.heap.size+1,1,none⟩=some (.int .i64 0):=(cQa H5.out.2).trans rfl
     have x2:w5.cell? ⟨w.heap.size+1,2,none⟩=some (.string ⟨#[]⟩):=(cQa H5.out.2).trans rfl
     have x3:w5.cell? ⟨w.heap.size+1,3,none⟩=some (.slice none 0 0):=(cQa H5.out.2).trans rfl
     refine bodyPost_ret (v:=.tuple #[.agg #[.int .i64 0,.int .i64 0,.string ⟨#[]⟩,.slice none 0 0],.int .i64 e1,.int .i64 at_]) (by simp [results,Tryz.results70,go_sem,x0,x1,x2,x3]) rfl ?_
     refine ⟨H5.out.1,?_⟩
     unfold dvE
     rw [HU.out]
     rfl
    | inr y =>
     rw [hs] at hd
     have CS:Hid (Calls Tryz.prog 87 #[.pointer (some ⟨w.heap.size+1+1,0,none⟩)] wr fun e w''=>e=.returned (.tuple #[.int .i64 0,.int .i64 0])/\BdS w1 (w.heap.size+1+1) (w.heap.size+1+1) 9 (dvO g (.slice pa l.length pc) (.slice wa L.length wc) (y.u:Int) (y.r:Int)) (fun _=>none) y.A w''):=HS2.2 y hs
     obtain ⟨k1,k2⟩:=HOS.out x y HO.out.1 hs
     have HV:Hid (derU g l L n y=derU g l L (l.length+L.length+1) ⟨0,0,([],[])⟩/\OkD2 g l L y/\l.length+L.length < n+(y.u+y.r)/\n < gk - 1):=⟨hd,k1,by have:=HO.out.2;omega,by have:=HGN.out;omega⟩
     clear hd hw HS2 hs k1 k2 HB9 HO
     go_wp2_with (first | (go_at_call 86;refine CW.out.mono ?_;rintro e w2 ⟨rfl,rfl⟩) | (go_at_call 87;refine CS.out.mono ?_;rintro e w3 ⟨rfl,b3⟩;have H3:Hid (BdS w1 (w.heap.size+1+1) (w.heap.size+1+1) 9 (dvO g (.slice pa l.length pc) (.slice wa L.length wc) (y.u:Int) (y.r:Int)) (fun _=>none) y.A w3):=b3;clear b3))
     go_roundg (gk - 1)
     case measure=>have:=HGN.out;omega
     case rel=>exact ⟨n,y,H3.out,HV.out.2.1,HV.out.1,HV.out.2.2⟩
end Go.Proofs.YteciabdjkaackaaGreat
