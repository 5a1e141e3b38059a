import Derived.Test.YtmfapopclbnlpaaGreatDoorProg
import Derived.ProofKit
import Derived.Test.YtmfapopclbnlpaaGreatDoorDt6
import Derived.Test.YtmfapopclbnlpaaGreatDoorDt18
import Derived.Test.YtmfapopclbnlpaaGreatDoorDt20
import Derived.Test.YtmfapopclbnlpaaGreatDoorDt25
set_option linter.unusedVariables false
set_option linter.unusedSimpArgs false
set_option maxRecDepth 100000
set_option maxHeartbeats 4000000
namespace Go.Proofs.YtmfapopclbnlpaaGreatDoor
open Go Go.Proofs Go.RowKit Go.Vc
section
theorem kL(r:RS)(s:Bs):(r.bm s).1={r with hk:=(r.bm s).1.hk,hs:=(r.bm s).1.hs,hn:=(r.bm s).1.hn,hp:=(r.bm s).1.hp,port:=(r.bm s).1.port}:=by
 unfold RS.bm
 dsimp only
 (repeat' split)<;>rfl
theorem DO(r:RS):r.aU.1={r with us:=r.aU.1.us,pw:=r.aU.1.pw,hk:=r.aU.1.hk,hs:=r.aU.1.hs,hn:=r.aU.1.hn,hp:=r.aU.1.hp,port:=r.aU.1.port,rst:=aa r.rst (ah r.sp r.rst)}:=by
 unfold RS.aU
 dsimp only
 split
 ·split
  ·rfl
  ·rw [kL];rfl
 ·rw [kL];rfl
theorem AF(r:RS):r.bb.1={r with hk:=r.bb.1.hk,hs:=r.bb.1.hs,hn:=r.bb.1.hn,hp:=r.bb.1.hp,pn:=r.bb.1.pn,pl:=r.bb.1.pl,rst:=r.bb.1.rst}:=by
 unfold RS.bb
 dsimp only
 split
 ·split
  ·rfl
  ·split
   ·rw [ey];rfl
   ·rw [ey];rfl
 ·rfl
theorem ru(r:RS):r.path.rst.length≤r.rst.length:=cR _ _
theorem vJ(r:RS):r.av.1.rst.length≤r.rst.length:=by rw [ey];exact cR _ _
theorem DP(r:RS):r.bb.1.rst.length≤r.rst.length:=by
 unfold RS.bb
 dsimp only
 split
 ·have h2:=cR r.rst 2
  split
  ·exact Nat.le_trans (ru _) h2
  ·have h3:=vJ (({r with hk:=1}:RS).cut 2)
   split
   ·exact Nat.le_trans (ru _) (Nat.le_trans (mK _ _) (Nat.le_trans h3 h2))
   ·exact Nat.le_trans h3 h2
 ·exact Nat.le_trans (ru _) (mK _ _)
theorem rv:∀(f:Nat) (sp:Bool) (n:Int) (l:Bs),(aB f sp n l).length≤l.length
 |0,_,_,l=>Nat.le_refl _
 |f+1,sp,n,l=>by
  unfold aB
  split
  ·exact Nat.le_trans (rv f sp (n+1) _) (cR _ _)
  ·exact Nat.le_refl _
theorem ry(l:Bs):∀(r:Bs) (i:Nat),(ab l r i).2.1.length≤l.length
 |[],_=>Nat.zero_le _
 |c::r,i=>by
  unfold ab
  split
  ·exact ry l r (i+1)
  ·split
   ·exact Nat.zero_le _
   ·split
    ·show(l.drop (i+1)).length≤_
     rw [List.length_drop];omega
    ·split
     ·exact ry l r (i+1)
     ·exact Nat.zero_le _
theorem gV(r:RS):r.tail={r with hq:=dX r.rst r.hq,q:=dY r.sp r.rst r.q,hf:=dZ (bG r.rst) r.hf,fg:=ee (bG r.rst) r.fg,rst:=eh (bG r.rst)}:=by
 unfold RS.tail
 rw [IX,Gn]
theorem iL(l:Bs):(bG l).length≤l.length:=by
 unfold bG
 split
 ·exact Nat.le_trans (cR _ _) (cR _ _)
 ·exact Nat.le_refl _
def nZ(r:RS):PV:=(aD 0 (.raw (.pointer none)) (r.sc) (r.us) (r.pw) (r.hk) (r.hs) (r.hn) (r.hp) (r.port) (r.opq) (r.pn) (r.pl) (r.hq) (r.q) (r.hf) (r.fg) (r.bare) (r.sp) (r.rst))
def KT(o:RS×Int):PV→List PV→Prop:=fun v os=>v=.int .i64 o.2∧PV.ba (PV.aS cV) os=[nZ o.1]
def AG(k:PV→List PV→Prop)(sc us pw:Bs)(hk:Int)(hs:Bs)(hn:Int)(hp:List Int)(port:Int)(pn:Bool)(pl:List Bs)(hq:Bool)(q:Bs)(hf:Bool)(fg:Bs)(bare sp:Bool)(rst:Bs):Prop:=∀(x:RS),(RS.mk sc us pw hk hs hn hp port false pn pl hq q hf fg bare sp rst).aq=x.b9∧
 List.length x.rst≤(300000:Nat)∧
 x.pl.length≤(100000:Nat)→
 (List.length x.rst).le (300000:Nat)∧
 ((!decide (x.aU.2=(0:Int)))=true→
 k (PV.int .i64 x.aU.2) [bT (PV.raw (Go.Value.pointer none)) 1 x.sc (x.aU.1.us) (x.aU.1.pw) (x.aU.1.hk) (x.aU.1.hs) (x.aU.1.hn) (x.aU.1.hp) (x.aU.1.port) x.opq x.pn x.pl x.hq x.q x.hf x.fg x.bare x.sp (aa x.rst ↑(ah x.sp x.rst))])∧
 ((!decide (x.aU.2=(0:Int)))=false→
 ((!x.sp)=true→
 True∧
 (bQ (aa x.rst ↑(ah x.sp x.rst))=true→
 (aa x.rst ↑(ah x.sp x.rst)).length.le (300000:Nat)∧
 (List.length (bG (aa x.rst ↑(ah x.sp x.rst)))).le (300000:Nat)∧
 k (PV.int .i64 (0:Int)) [bT (PV.raw (Go.Value.pointer none)) 1 x.sc (x.aU.1.us) (x.aU.1.pw) (x.aU.1.hk) (x.aU.1.hs) (x.aU.1.hn) (x.aU.1.hp) (x.aU.1.port) x.opq x.pn x.pl (dX (aa x.rst ↑(ah x.sp x.rst)) x.hq) (dY x.sp (aa x.rst ↑(ah x.sp x.rst)) x.q) (dZ (bG (aa x.rst ↑(ah x.sp x.rst))) x.hf) (ee (bG (aa x.rst ↑(ah x.sp x.rst))) x.fg) x.bare x.sp (eh (bG (aa x.rst ↑(ah x.sp x.rst))))])∧
 (bQ (aa x.rst ↑(ah x.sp x.rst))=false→
 True∧
 (List.length (if aA x.sp (aa x.rst ↑(ah x.sp x.rst)) (0:Int)=true then aa (aa x.rst ↑(ah x.sp x.rst)) (1:Int)else aa x.rst ↑(ah x.sp x.rst))≤(300000:Nat)∧
 x.pl.length≤(100000:Nat))∧
 (aa (if aA x.sp (aa x.rst ↑(ah x.sp x.rst)) (0:Int)=true then aa (aa x.rst ↑(ah x.sp x.rst)) (1:Int)else aa x.rst ↑(ah x.sp x.rst)) ↑(aE (if aA x.sp (aa x.rst ↑(ah x.sp x.rst)) (0:Int)=true then aa (aa x.rst ↑(ah x.sp x.rst)) (1:Int)else aa x.rst ↑(ah x.sp x.rst)))).length.le (300000:Nat)∧
 (List.length (bG (aa (if aA x.sp (aa x.rst ↑(ah x.sp x.rst)) (0:Int)=true then aa (aa x.rst ↑(ah x.sp x.rst)) (1:Int)else aa x.rst ↑(ah x.sp x.rst)) ↑(aE (if aA x.sp (aa x.rst ↑(ah x.sp x.rst)) (0:Int)=true then aa (aa x.rst ↑(ah x.sp x.rst)) (1:Int)else aa x.rst ↑(ah x.sp x.rst)))))).le (300000:Nat)∧
 k (PV.int .i64 (0:Int)) [bT (PV.raw (Go.Value.pointer none)) 1 x.sc (x.aU.1.us) (x.aU.1.pw) (x.aU.1.hk) (x.aU.1.hs) (x.aU.1.hn) (x.aU.1.hp) (x.aU.1.port) x.opq ((br x.sp x.sc (ae (if aA x.sp (aa x.rst ↑(ah x.sp x.rst)) (0:Int)=true then aa (aa x.rst ↑(ah x.sp x.rst)) (1:Int)else aa x.rst ↑(ah x.sp x.rst)) ↑(aE (if aA x.sp (aa x.rst ↑(ah x.sp x.rst)) (0:Int)=true then aa (aa x.rst ↑(ah x.sp x.rst)) (1:Int)else aa x.rst ↑(ah x.sp x.rst)))) (x.pn,x.pl)).1) ((br x.sp x.sc (ae (if aA x.sp (aa x.rst ↑(ah x.sp x.rst)) (0:Int)=true then aa (aa x.rst ↑(ah x.sp x.rst)) (1:Int)else aa x.rst ↑(ah x.sp x.rst)) ↑(aE (if aA x.sp (aa x.rst ↑(ah x.sp x.rst)) (0:Int)=true then aa (aa x.rst ↑(ah x.sp x.rst)) (1:Int)else aa x.rst ↑(ah x.sp x.rst)))) (x.pn,x.pl)).2) (dX (aa (if aA x.sp (aa x.rst ↑(ah x.sp x.rst)) (0:Int)=true then aa (aa x.rst ↑(ah x.sp x.rst)) (1:Int)else aa x.rst ↑(ah x.sp x.rst)) ↑(aE (if aA x.sp (aa x.rst ↑(ah x.sp x.rst)) (0:Int)=true then aa (aa x.rst ↑(ah x.sp x.rst)) (1:Int)else aa x.rst ↑(ah x.sp x.rst)))) x.hq) (dY x.sp (aa (if aA x.sp (aa x.rst ↑(ah x.sp x.rst)) (0:Int)=true then aa (aa x.rst ↑(ah x.sp x.rst)) (1:Int)else aa x.rst ↑(ah x.sp x.rst)) ↑(aE (if aA x.sp (aa x.rst ↑(ah x.sp x.rst)) (0:Int)=true then aa (aa x.rst ↑(ah x.sp x.rst)) (1:Int)else aa x.rst ↑(ah x.sp x.rst)))) x.q) (dZ (bG (aa (if aA x.sp (aa x.rst ↑(ah x.sp x.rst)) (0:Int)=true then aa (aa x.rst ↑(ah x.sp x.rst)) (1:Int)else aa x.rst ↑(ah x.sp x.rst)) ↑(aE (if aA x.sp (aa x.rst ↑(ah x.sp x.rst)) (0:Int)=true then aa (aa x.rst ↑(ah x.sp x.rst)) (1:Int)else aa x.rst ↑(ah x.sp x.rst))))) x.hf) (ee (bG (aa (if aA x.sp (aa x.rst ↑(ah x.sp x.rst)) (0:Int)=true then aa (aa x.rst ↑(ah x.sp x.rst)) (1:Int)else aa x.rst ↑(ah x.sp x.rst)) ↑(aE (if aA x.sp (aa x.rst ↑(ah x.sp x.rst)) (0:Int)=true then aa (aa x.rst ↑(ah x.sp x.rst)) (1:Int)else aa x.rst ↑(ah x.sp x.rst))))) x.fg) x.bare x.sp (eh (bG (aa (if aA x.sp (aa x.rst ↑(ah x.sp x.rst)) (0:Int)=true then aa (aa x.rst ↑(ah x.sp x.rst)) (1:Int)else aa x.rst ↑(ah x.sp x.rst)) ↑(aE (if aA x.sp (aa x.rst ↑(ah x.sp x.rst)) (0:Int)=true then aa (aa x.rst ↑(ah x.sp x.rst)) (1:Int)else aa x.rst ↑(ah x.sp x.rst))))))]))∧
 ((!x.sp)=!true→
 (false=true→
 (aa x.rst ↑(ah x.sp x.rst)).length.le (300000:Nat)∧
 (List.length (bG (aa x.rst ↑(ah x.sp x.rst)))).le (300000:Nat)∧
 k (PV.int .i64 (0:Int)) [bT (PV.raw (Go.Value.pointer none)) 1 x.sc (x.aU.1.us) (x.aU.1.pw) (x.aU.1.hk) (x.aU.1.hs) (x.aU.1.hn) (x.aU.1.hp) (x.aU.1.port) x.opq x.pn x.pl (dX (aa x.rst ↑(ah x.sp x.rst)) x.hq) (dY x.sp (aa x.rst ↑(ah x.sp x.rst)) x.q) (dZ (bG (aa x.rst ↑(ah x.sp x.rst))) x.hf) (ee (bG (aa x.rst ↑(ah x.sp x.rst))) x.fg) x.bare x.sp (eh (bG (aa x.rst ↑(ah x.sp x.rst))))])∧
 (false=false→
 True∧
 (List.length (if aA x.sp (aa x.rst ↑(ah x.sp x.rst)) (0:Int)=true then aa (aa x.rst ↑(ah x.sp x.rst)) (1:Int)else aa x.rst ↑(ah x.sp x.rst))≤(300000:Nat)∧
 x.pl.length≤(100000:Nat))∧
 (aa (if aA x.sp (aa x.rst ↑(ah x.sp x.rst)) (0:Int)=true then aa (aa x.rst ↑(ah x.sp x.rst)) (1:Int)else aa x.rst ↑(ah x.sp x.rst)) ↑(aE (if aA x.sp (aa x.rst ↑(ah x.sp x.rst)) (0:Int)=true then aa (aa x.rst ↑(ah x.sp x.rst)) (1:Int)else aa x.rst ↑(ah x.sp x.rst)))).length.le (300000:Nat)∧
 (List.length (bG (aa (if aA x.sp (aa x.rst ↑(ah x.sp x.rst)) (0:Int)=true then aa (aa x.rst ↑(ah x.sp x.rst)) (1:Int)else aa x.rst ↑(ah x.sp x.rst)) ↑(aE (if aA x.sp (aa x.rst ↑(ah x.sp x.rst)) (0:Int)=true then aa (aa x.rst ↑(ah x.sp x.rst)) (1:Int)else aa x.rst ↑(ah x.sp x.rst)))))).le (300000:Nat)∧
 k (PV.int .i64 (0:Int)) [bT (PV.raw (Go.Value.pointer none)) 1 x.sc (x.aU.1.us) (x.aU.1.pw) (x.aU.1.hk) (x.aU.1.hs) (x.aU.1.hn) (x.aU.1.hp) (x.aU.1.port) x.opq ((br x.sp x.sc (ae (if aA x.sp (aa x.rst ↑(ah x.sp x.rst)) (0:Int)=true then aa (aa x.rst ↑(ah x.sp x.rst)) (1:Int)else aa x.rst ↑(ah x.sp x.rst)) ↑(aE (if aA x.sp (aa x.rst ↑(ah x.sp x.rst)) (0:Int)=true then aa (aa x.rst ↑(ah x.sp x.rst)) (1:Int)else aa x.rst ↑(ah x.sp x.rst)))) (x.pn,x.pl)).1) ((br x.sp x.sc (ae (if aA x.sp (aa x.rst ↑(ah x.sp x.rst)) (0:Int)=true then aa (aa x.rst ↑(ah x.sp x.rst)) (1:Int)else aa x.rst ↑(ah x.sp x.rst)) ↑(aE (if aA x.sp (aa x.rst ↑(ah x.sp x.rst)) (0:Int)=true then aa (aa x.rst ↑(ah x.sp x.rst)) (1:Int)else aa x.rst ↑(ah x.sp x.rst)))) (x.pn,x.pl)).2) (dX (aa (if aA x.sp (aa x.rst ↑(ah x.sp x.rst)) (0:Int)=true then aa (aa x.rst ↑(ah x.sp x.rst)) (1:Int)else aa x.rst ↑(ah x.sp x.rst)) ↑(aE (if aA x.sp (aa x.rst ↑(ah x.sp x.rst)) (0:Int)=true then aa (aa x.rst ↑(ah x.sp x.rst)) (1:Int)else aa x.rst ↑(ah x.sp x.rst)))) x.hq) (dY x.sp (aa (if aA x.sp (aa x.rst ↑(ah x.sp x.rst)) (0:Int)=true then aa (aa x.rst ↑(ah x.sp x.rst)) (1:Int)else aa x.rst ↑(ah x.sp x.rst)) ↑(aE (if aA x.sp (aa x.rst ↑(ah x.sp x.rst)) (0:Int)=true then aa (aa x.rst ↑(ah x.sp x.rst)) (1:Int)else aa x.rst ↑(ah x.sp x.rst)))) x.q) (dZ (bG (aa (if aA x.sp (aa x.rst ↑(ah x.sp x.rst)) (0:Int)=true then aa (aa x.rst ↑(ah x.sp x.rst)) (1:Int)else aa x.rst ↑(ah x.sp x.rst)) ↑(aE (if aA x.sp (aa x.rst ↑(ah x.sp x.rst)) (0:Int)=true then aa (aa x.rst ↑(ah x.sp x.rst)) (1:Int)else aa x.rst ↑(ah x.sp x.rst))))) x.hf) (ee (bG (aa (if aA x.sp (aa x.rst ↑(ah x.sp x.rst)) (0:Int)=true then aa (aa x.rst ↑(ah x.sp x.rst)) (1:Int)else aa x.rst ↑(ah x.sp x.rst)) ↑(aE (if aA x.sp (aa x.rst ↑(ah x.sp x.rst)) (0:Int)=true then aa (aa x.rst ↑(ah x.sp x.rst)) (1:Int)else aa x.rst ↑(ah x.sp x.rst))))) x.fg) x.bare x.sp (eh (bG (aa (if aA x.sp (aa x.rst ↑(ah x.sp x.rst)) (0:Int)=true then aa (aa x.rst ↑(ah x.sp x.rst)) (1:Int)else aa x.rst ↑(ah x.sp x.rst)) ↑(aE (if aA x.sp (aa x.rst ↑(ah x.sp x.rst)) (0:Int)=true then aa (aa x.rst ↑(ah x.sp x.rst)) (1:Int)else aa x.rst ↑(ah x.sp x.rst))))))])))
def IY(k:PV→List PV→Prop)(sc us pw:Bs)(hk:Int)(hs:Bs)(hn:Int)(hp:List Int)(port:Int)(pn:Bool)(pl:List Bs)(hq:Bool)(q:Bs)(hf:Bool)(fg:Bs)(bare sp:Bool)(rst:Bs):Prop:=∀(x:RS),(RS.mk sc us pw hk hs hn hp port false pn pl hq q hf fg bare sp rst).aq=(x.path.tail,(0:Int))∧
 List.length x.rst≤(300000:Nat)∧
 x.pl.length≤(100000:Nat)→
 (List.length x.rst≤(300000:Nat)∧
 x.pl.length≤(100000:Nat))∧
 (aa x.rst ↑(aE x.rst)).length.le (300000:Nat)∧
 (List.length (bG (aa x.rst ↑(aE x.rst)))).le (300000:Nat)∧
 k (PV.int .i64 (0:Int)) [bT (PV.raw (Go.Value.pointer none)) 1 x.sc x.us x.pw x.hk x.hs x.hn x.hp x.port x.opq ((br x.sp x.sc (ae x.rst ↑(aE x.rst)) (x.pn,x.pl)).1) ((br x.sp x.sc (ae x.rst ↑(aE x.rst)) (x.pn,x.pl)).2) (dX (aa x.rst ↑(aE x.rst)) x.hq) (dY x.sp (aa x.rst ↑(aE x.rst)) x.q) (dZ (bG (aa x.rst ↑(aE x.rst))) x.hf) (ee (bG (aa x.rst ↑(aE x.rst))) x.fg) x.bare x.sp (eh (bG (aa x.rst ↑(aE x.rst))))]
theorem IZ(sc us pw:Bs)(hk:Int)(hs:Bs)(hn:Int)(hp:List Int)(port:Int)(pn:Bool)(pl:List Bs)(hq:Bool)(q:Bs)(hf:Bool)(fg:Bs)(bare sp:Bool)(rst:Bs):IY (KT (RS.mk sc us pw hk hs hn hp port false pn pl hq q hf fg bare sp rst).aq) sc us pw hk hs hn hp port pn pl hq q hf fg bare sp rst:=fun x ⟨h1,h2,h3⟩=>by
 have hl:=cR x.rst (aE x.rst)
 have hq':=iL (aa x.rst (aE x.rst))
 rw [h1]
 refine ⟨⟨h2,h3⟩,show(aa x.rst (aE x.rst)).length≤300000 by omega,show(bG (aa x.rst (aE x.rst))).length≤300000 by omega,rfl,?_⟩
 show _=[nZ x.path.tail]
 rw [gV]
 rfl
set_option maxHeartbeats 4000000 in
theorem I0(sc us pw:Bs)(hk:Int)(hs:Bs)(hn:Int)(hp:List Int)(port:Int)(pn:Bool)(pl:List Bs)(hq:Bool)(q:Bs)(hf:Bool)(fg:Bs)(bare sp:Bool)(rst:Bs):AG (KT (RS.mk sc us pw hk hs hn hp port false pn pl hq q hf fg bare sp rst).aq) sc us pw hk hs hn hp port pn pl hq q hf fg bare sp rst:=fun x ⟨h1,h2,h3⟩=>by
 have er:=DO x
 have e_sc:x.aU.1.sc=x.sc:=(by have h:=congrArg RS.sc er;exact h)
 have e_opq:x.aU.1.opq=x.opq:=(by have h:=congrArg RS.opq er;exact h)
 have e_pn:x.aU.1.pn=x.pn:=(by have h:=congrArg RS.pn er;exact h)
 have e_pl:x.aU.1.pl=x.pl:=(by have h:=congrArg RS.pl er;exact h)
 have e_hq:x.aU.1.hq=x.hq:=(by have h:=congrArg RS.hq er;exact h)
 have e_q:x.aU.1.q=x.q:=(by have h:=congrArg RS.q er;exact h)
 have e_hf:x.aU.1.hf=x.hf:=(by have h:=congrArg RS.hf er;exact h)
 have e_fg:x.aU.1.fg=x.fg:=(by have h:=congrArg RS.fg er;exact h)
 have e_bare:x.aU.1.bare=x.bare:=(by have h:=congrArg RS.bare er;exact h)
 have e_sp:x.aU.1.sp=x.sp:=(by have h:=congrArg RS.sp er;exact h)
 have e_rst:x.aU.1.rst=aa x.rst (ah x.sp x.rst):=(by have h:=congrArg RS.rst er;exact h)
 have hl:=cR x.rst (ah x.sp x.rst)
 have hl2:=iL (aa x.rst (ah x.sp x.rst))
 have hs1:=mK x.sp (aa x.rst (ah x.sp x.rst))
 have pl1:∀R:Bs,R.length≤x.rst.length→(aa R (aE R)).length≤300000∧(bG (aa R (aE R))).length≤300000:=fun R hR=>by
  have a:=cR R (aE R)
  have b:=iL (aa R (aE R))
  omega
 have ea:x.b9=if x.aU.2=0 then(if x.aU.1.sp=false∧bQ x.aU.1.rst=true then(x.aU.1.tail,0)else(x.aU.1.shl.path.tail,0))else x.aU:=rfl
 have fin:x.b9=(x.aU.1.shl.path.tail,0)→KT x.b9 (.int .i64 0) [nZ {x with us:=x.aU.1.us,pw:=x.aU.1.pw,hk:=x.aU.1.hk,hs:=x.aU.1.hs,hn:=x.aU.1.hn,hp:=x.aU.1.hp,port:=x.aU.1.port,pn:=(br x.sp x.sc (ae (if aA x.sp (aa x.rst (ah x.sp x.rst)) 0=true then aa (aa x.rst (ah x.sp x.rst)) 1 else aa x.rst (ah x.sp x.rst)) (aE (if aA x.sp (aa x.rst (ah x.sp x.rst)) 0=true then aa (aa x.rst (ah x.sp x.rst)) 1 else aa x.rst (ah x.sp x.rst)))) (x.pn,x.pl)).1,pl:=(br x.sp x.sc (ae (if aA x.sp (aa x.rst (ah x.sp x.rst)) 0=true then aa (aa x.rst (ah x.sp x.rst)) 1 else aa x.rst (ah x.sp x.rst)) (aE (if aA x.sp (aa x.rst (ah x.sp x.rst)) 0=true then aa (aa x.rst (ah x.sp x.rst)) 1 else aa x.rst (ah x.sp x.rst)))) (x.pn,x.pl)).2,hq:=dX (aa (if aA x.sp (aa x.rst (ah x.sp x.rst)) 0=true then aa (aa x.rst (ah x.sp x.rst)) 1 else aa x.rst (ah x.sp x.rst)) (aE (if aA x.sp (aa x.rst (ah x.sp x.rst)) 0=true then aa (aa x.rst (ah x.sp x.rst)) 1 else aa x.rst (ah x.sp x.rst)))) x.hq,q:=dY x.sp (aa (if aA x.sp (aa x.rst (ah x.sp x.rst)) 0=true then aa (aa x.rst (ah x.sp x.rst)) 1 else aa x.rst (ah x.sp x.rst)) (aE (if aA x.sp (aa x.rst (ah x.sp x.rst)) 0=true then aa (aa x.rst (ah x.sp x.rst)) 1 else aa x.rst (ah x.sp x.rst)))) x.q,hf:=dZ (bG (aa (if aA x.sp (aa x.rst (ah x.sp x.rst)) 0=true then aa (aa x.rst (ah x.sp x.rst)) 1 else aa x.rst (ah x.sp x.rst)) (aE (if aA x.sp (aa x.rst (ah x.sp x.rst)) 0=true then aa (aa x.rst (ah x.sp x.rst)) 1 else aa x.rst (ah x.sp x.rst))))) x.hf,fg:=ee (bG (aa (if aA x.sp (aa x.rst (ah x.sp x.rst)) 0=true then aa (aa x.rst (ah x.sp x.rst)) 1 else aa x.rst (ah x.sp x.rst)) (aE (if aA x.sp (aa x.rst (ah x.sp x.rst)) 0=true then aa (aa x.rst (ah x.sp x.rst)) 1 else aa x.rst (ah x.sp x.rst))))) x.fg,rst:=eh (bG (aa (if aA x.sp (aa x.rst (ah x.sp x.rst)) 0=true then aa (aa x.rst (ah x.sp x.rst)) 1 else aa x.rst (ah x.sp x.rst)) (aE (if aA x.sp (aa x.rst (ah x.sp x.rst)) 0=true then aa (aa x.rst (ah x.sp x.rst)) 1 else aa x.rst (ah x.sp x.rst)))))}]:=fun h=>by
  rw [h]
  refine ⟨rfl,?_⟩
  show [nZ _]=[nZ x.aU.1.shl.path.tail]
  rw [gV]
  unfold RS.path RS.shl
  dsimp only
  simp only [e_sc,e_opq,e_pn,e_pl,e_hq,e_q,e_hf,e_fg,e_bare,e_sp,e_rst]
 rw [h1]
 refine ⟨show x.rst.length≤300000 from h2,fun hc=>?_,fun hc=>⟨fun hs=>⟨trivial,fun ht=>⟨show(aa x.rst (ah x.sp x.rst)).length≤300000 by omega,show(bG (aa x.rst (ah x.sp x.rst))).length≤300000 by omega,?_⟩,fun ht=>⟨trivial,⟨by omega,h3⟩,(pl1 _ (by omega)).1,(pl1 _ (by omega)).2,?_⟩⟩,fun hs=>⟨fun h=>(by cases h),fun _=>⟨trivial,⟨by omega,h3⟩,(pl1 _ (by omega)).1,(pl1 _ (by omega)).2,?_⟩⟩⟩⟩
 ·have hc':¬x.aU.2=0:=by simpa using hc
  rw [ea,if_neg hc']
  exact ⟨rfl,congrArg (fun r=>[nZ r]) er.symm⟩
 ·have hc':x.aU.2=0:=by simpa using hc
  have hs':x.sp=false:=by simpa using hs
  rw [ea,if_pos hc',if_pos ⟨by rw [e_sp];exact hs',by rw [e_rst];exact ht⟩]
  refine ⟨rfl,?_⟩
  show _=[nZ x.aU.1.tail]
  rw [gV]
  simp only [e_sc,e_opq,e_pn,e_pl,e_hq,e_q,e_hf,e_fg,e_bare,e_sp,e_rst]
  rfl
 ·have hc':x.aU.2=0:=by simpa using hc
  exact fin (by rw [ea,if_pos hc',if_neg (by rintro ⟨-,h⟩;rw [e_rst]at h;rw [ht]at h;cases h)])
 ·have hc':x.aU.2=0:=by simpa using hc
  have hs':x.sp=true:=by simpa using hs
  exact fin (by rw [ea,if_pos hc',if_neg (by rintro ⟨h,-⟩;rw [e_sp,hs']at h;cases h)])
def yd:cw:=bO [(75,j5),(76,nU),(77,gu),(78,db),(79,fU),(80,jV),(81,ly),(82,gr),(88,hZ),(89,lv),(84,fw),(90,mC),(91,nP),(92,jj),(91,lz),(92,ia)]
def ye(sc us pw:Bs)(hk:Int)(hs:Bs)(hn:Int)(hp:List Int)(port:Int)(pn:Bool)(pl:List Bs)(hq:Bool)(q:Bs)(hf:Bool)(fg:Bs)(bare sp:Bool)(rst:Bs):aX:=fun i=>bif Nat.beq i 1000002 then some ⟨(RS),(fun s x=>(VS.mk s.loc s.env [(0,aD 1 (.raw (.pointer none)) (x.sc) (x.us) (x.pw) (x.hk) (x.hs) (x.hn) (x.hp) (x.port) (x.opq) (x.pn) (x.pl) (x.hq) (x.q) (x.hf) (x.fg) (x.bare) (x.sp) (x.rst))])),(fun s=>RS.mk (s.bx 0 [0,0]).dh (s.bx 0 [0,1]).dh (s.bx 0 [0,2]).dh (s.bx 0 [0,3,0]).asInt (s.bx 0 [0,3,1]).dh (s.bx 0 [0,3,2]).asInt (s.bx 0 [0,3,3]).mP (s.bx 0 [0,4]).asInt (s.bx 0 [0,5]).asBool (s.bx 0 [0,6]).lH (s.bx 0 [0,6]).kO (s.bx 0 [0,7]).asBool (s.bx 0 [0,8]).dh (s.bx 0 [0,9]).asBool (s.bx 0 [0,10]).dh (s.bx 0 [2]).asBool (s.bx 0 [3]).asBool (s.bx 0 [4]).dh),(fun s x=>let r:=x;(RS.mk sc us pw hk hs hn hp port false pn pl hq q hf fg bare sp rst).aq=r.b9∧r.rst.length≤300000∧r.pl.length≤100000),(fun s x=>let r:=x;0),[]⟩else bif Nat.beq i 1000003 then some ⟨(RS),(fun s x=>(VS.mk s.loc s.env [(0,aD 1 (.raw (.pointer none)) (x.sc) (x.us) (x.pw) (x.hk) (x.hs) (x.hn) (x.hp) (x.port) (x.opq) (x.pn) (x.pl) (x.hq) (x.q) (x.hf) (x.fg) (x.bare) (x.sp) (x.rst))])),(fun s=>RS.mk (s.bx 0 [0,0]).dh (s.bx 0 [0,1]).dh (s.bx 0 [0,2]).dh (s.bx 0 [0,3,0]).asInt (s.bx 0 [0,3,1]).dh (s.bx 0 [0,3,2]).asInt (s.bx 0 [0,3,3]).mP (s.bx 0 [0,4]).asInt (s.bx 0 [0,5]).asBool (s.bx 0 [0,6]).lH (s.bx 0 [0,6]).kO (s.bx 0 [0,7]).asBool (s.bx 0 [0,8]).dh (s.bx 0 [0,9]).asBool (s.bx 0 [0,10]).dh (s.bx 0 [2]).asBool (s.bx 0 [3]).asBool (s.bx 0 [4]).dh),(fun s x=>let r:=x;(RS.mk sc us pw hk hs hn hp port false pn pl hq q hf fg bare sp rst).aq=(r.path.tail,0)∧r.rst.length≤300000∧r.pl.length≤100000),(fun s x=>let r:=x;0),[]⟩else bif Nat.beq i 1000001 then some ⟨(RS),(fun s x=>(VS.mk [] [] [])),(fun s=>RS.mk (s.bx 0 [0,0]).dh (s.bx 0 [0,1]).dh (s.bx 0 [0,2]).dh (s.bx 0 [0,3,0]).asInt (s.bx 0 [0,3,1]).dh (s.bx 0 [0,3,2]).asInt (s.bx 0 [0,3,3]).mP (s.bx 0 [0,4]).asInt (s.bx 0 [0,5]).asBool (s.bx 0 [0,6]).lH (s.bx 0 [0,6]).kO (s.bx 0 [0,7]).asBool (s.bx 0 [0,8]).dh (s.bx 0 [0,9]).asBool (s.bx 0 [0,10]).dh (s.bx 0 [2]).asBool (s.bx 0 [3]).asBool (s.bx 0 [4]).dh),(fun s x=>let r:=x;False),(fun s x=>let r:=x;0),[]⟩else none
theorem yf:cW Tryz.prog az yd:=ai rm (ai vC (ai gj (ai cK (ai lu (ai jW (ai r5 (ai gi (ai nN (ai rX (ai iK (ai oN (ai vr (ai oY (ai r6 (ai nR (ax))))))))))))))))
theorem DQ(sc us pw:Bs)(hk:Int)(hs:Bs)(hn:Int)(hp:List Int)(port:Int)(pn:Bool)(pl:List Bs)(hq:Bool)(q:Bs)(hf:Bool)(fg:Bs)(bare sp:Bool)(rst:Bs)(k:PV→List PV→Prop):bL Tryz.prog yd az (ye sc us pw hk hs hn hp port pn pl hq q hf fg bare sp rst) 1000 Tryz.f47 [.ptr 0 0] [aD 1 (.raw (.pointer none)) sc us pw hk hs hn hp port false pn pl hq q hf fg bare sp rst] k=(
 (List.length rst≤(300000:Nat)∧
 (ab rst rst (0:Nat)).2.2=true)∧
 ((!decide ((0:Int)=(0:Int)))=true→
 k (PV.int .i64 (0:Int)) [bT (PV.raw (Go.Value.pointer none)) 1 ((ab rst rst (0:Nat)).1) us pw hk hs hn hp port false pn pl hq q hf fg false (aw (ab rst rst (0:Nat)).1) ((ab rst rst (0:Nat)).2.1)])∧
 ((!decide ((0:Int)=(0:Int)))=false→
 (false=true→
 (List.length (ab rst rst (0:Nat)).2.1).le (300000:Nat)∧
 (List.length (bG (ab rst rst (0:Nat)).2.1)).le (300000:Nat)∧
 k (PV.int .i64 (0:Int)) [bT (PV.raw (Go.Value.pointer none)) 1 ((ab rst rst (0:Nat)).1) us pw hk hs hn hp port false pn pl (dX (ab rst rst (0:Nat)).2.1 hq) (dY (aw (ab rst rst (0:Nat)).1) (ab rst rst (0:Nat)).2.1 q) (dZ (bG (ab rst rst (0:Nat)).2.1) hf) (ee (bG (ab rst rst (0:Nat)).2.1) fg) false (aw (ab rst rst (0:Nat)).1) (eh (bG (ab rst rst (0:Nat)).2.1))])∧
 (false=false→
 (decide ((ab rst rst (0:Nat)).1=(ByteArray.mk #[102,105,108,101]).data.toList)=true→
 (List.length (ab rst rst (0:Nat)).2.1≤(300000:Nat)∧
 pl.length≤(100000:Nat))∧
 ((!decide ((RS.mk (ab rst rst (0:Nat)).1 us pw hk hs hn hp port false pn pl hq q hf fg false (aw (ab rst rst (0:Nat)).1) (ab rst rst (0:Nat)).2.1).bb.2=(0:Int)))=true→
 k (PV.int .i64 (RS.mk (ab rst rst (0:Nat)).1 us pw hk hs hn hp port false pn pl hq q hf fg false (aw (ab rst rst (0:Nat)).1) (ab rst rst (0:Nat)).2.1).bb.2) [bT (PV.raw (Go.Value.pointer none)) 1 ((ab rst rst (0:Nat)).1) us pw ((RS.mk (ab rst rst (0:Nat)).1 us pw hk hs hn hp port false pn pl hq q hf fg false (aw (ab rst rst (0:Nat)).1) (ab rst rst (0:Nat)).2.1).bb.1.hk) ((RS.mk (ab rst rst (0:Nat)).1 us pw hk hs hn hp port false pn pl hq q hf fg false (aw (ab rst rst (0:Nat)).1) (ab rst rst (0:Nat)).2.1).bb.1.hs) ((RS.mk (ab rst rst (0:Nat)).1 us pw hk hs hn hp port false pn pl hq q hf fg false (aw (ab rst rst (0:Nat)).1) (ab rst rst (0:Nat)).2.1).bb.1.hn) ((RS.mk (ab rst rst (0:Nat)).1 us pw hk hs hn hp port false pn pl hq q hf fg false (aw (ab rst rst (0:Nat)).1) (ab rst rst (0:Nat)).2.1).bb.1.hp) port false ((RS.mk (ab rst rst (0:Nat)).1 us pw hk hs hn hp port false pn pl hq q hf fg false (aw (ab rst rst (0:Nat)).1) (ab rst rst (0:Nat)).2.1).bb.1.pn) ((RS.mk (ab rst rst (0:Nat)).1 us pw hk hs hn hp port false pn pl hq q hf fg false (aw (ab rst rst (0:Nat)).1) (ab rst rst (0:Nat)).2.1).bb.1.pl) hq q hf fg false (aw (ab rst rst (0:Nat)).1) ((RS.mk (ab rst rst (0:Nat)).1 us pw hk hs hn hp port false pn pl hq q hf fg false (aw (ab rst rst (0:Nat)).1) (ab rst rst (0:Nat)).2.1).bb.1.rst)])∧
 ((!decide ((RS.mk (ab rst rst (0:Nat)).1 us pw hk hs hn hp port false pn pl hq q hf fg false (aw (ab rst rst (0:Nat)).1) (ab rst rst (0:Nat)).2.1).bb.2=(0:Int)))=false→
 (List.length (RS.mk (ab rst rst (0:Nat)).1 us pw hk hs hn hp port false pn pl hq q hf fg false (aw (ab rst rst (0:Nat)).1) (ab rst rst (0:Nat)).2.1).bb.1.rst).le (300000:Nat)∧
 (List.length (bG (RS.mk (ab rst rst (0:Nat)).1 us pw hk hs hn hp port false pn pl hq q hf fg false (aw (ab rst rst (0:Nat)).1) (ab rst rst (0:Nat)).2.1).bb.1.rst)).le (300000:Nat)∧
 k (PV.int .i64 (0:Int)) [bT (PV.raw (Go.Value.pointer none)) 1 ((ab rst rst (0:Nat)).1) us pw ((RS.mk (ab rst rst (0:Nat)).1 us pw hk hs hn hp port false pn pl hq q hf fg false (aw (ab rst rst (0:Nat)).1) (ab rst rst (0:Nat)).2.1).bb.1.hk) ((RS.mk (ab rst rst (0:Nat)).1 us pw hk hs hn hp port false pn pl hq q hf fg false (aw (ab rst rst (0:Nat)).1) (ab rst rst (0:Nat)).2.1).bb.1.hs) ((RS.mk (ab rst rst (0:Nat)).1 us pw hk hs hn hp port false pn pl hq q hf fg false (aw (ab rst rst (0:Nat)).1) (ab rst rst (0:Nat)).2.1).bb.1.hn) ((RS.mk (ab rst rst (0:Nat)).1 us pw hk hs hn hp port false pn pl hq q hf fg false (aw (ab rst rst (0:Nat)).1) (ab rst rst (0:Nat)).2.1).bb.1.hp) port false ((RS.mk (ab rst rst (0:Nat)).1 us pw hk hs hn hp port false pn pl hq q hf fg false (aw (ab rst rst (0:Nat)).1) (ab rst rst (0:Nat)).2.1).bb.1.pn) ((RS.mk (ab rst rst (0:Nat)).1 us pw hk hs hn hp port false pn pl hq q hf fg false (aw (ab rst rst (0:Nat)).1) (ab rst rst (0:Nat)).2.1).bb.1.pl) (dX (RS.mk (ab rst rst (0:Nat)).1 us pw hk hs hn hp port false pn pl hq q hf fg false (aw (ab rst rst (0:Nat)).1) (ab rst rst (0:Nat)).2.1).bb.1.rst hq) (dY (aw (ab rst rst (0:Nat)).1) (RS.mk (ab rst rst (0:Nat)).1 us pw hk hs hn hp port false pn pl hq q hf fg false (aw (ab rst rst (0:Nat)).1) (ab rst rst (0:Nat)).2.1).bb.1.rst q) (dZ (bG (RS.mk (ab rst rst (0:Nat)).1 us pw hk hs hn hp port false pn pl hq q hf fg false (aw (ab rst rst (0:Nat)).1) (ab rst rst (0:Nat)).2.1).bb.1.rst) hf) (ee (bG (RS.mk (ab rst rst (0:Nat)).1 us pw hk hs hn hp port false pn pl hq q hf fg false (aw (ab rst rst (0:Nat)).1) (ab rst rst (0:Nat)).2.1).bb.1.rst) fg) false (aw (ab rst rst (0:Nat)).1) (eh (bG (RS.mk (ab rst rst (0:Nat)).1 us pw hk hs hn hp port false pn pl hq q hf fg false (aw (ab rst rst (0:Nat)).1) (ab rst rst (0:Nat)).2.1).bb.1.rst))]))∧
 (decide ((ab rst rst (0:Nat)).1=(ByteArray.mk #[102,105,108,101]).data.toList)=false→
 (false=false→
 (aw (ab rst rst (0:Nat)).1=true→
 True∧
 (false=false→
 false=true→
 True)∧
 (false=true→
 VS.mk [] [(0,PV.ptr (0:Nat) (0:Nat)),(2,PV.int .i64 (0:Int)),(3,PV.int .i64 (0:Int)),(6,PV.bool !decide ((0:Int)=(0:Int))),(10,PV.bool false),(16,PV.bool (decide ((ab rst rst (0:Nat)).1=(ByteArray.mk #[102,105,108,101]).data.toList))),(26,PV.undef),(28,PV.bool false),(51,PV.undef),(58,PV.undef),(61,PV.undef),(71,PV.undef),(77,PV.undef),(81,PV.undef),(87,PV.undef),(97,PV.undef)] [((0:Nat),bT (PV.raw (Go.Value.pointer none)) 1 ((ab rst rst (0:Nat)).1) us pw hk hs hn hp port false pn pl hq q hf fg false (aw (ab rst rst (0:Nat)).1) ((ab rst rst (0:Nat)).2.1))]=VS.mk [] [] []∧
 False∧
 ∀(x:RS),False→
 False)∧
 (false=false→
 (aw (ab rst rst (0:Nat)).1=true→
 (List.length (ab rst rst (0:Nat)).2.1).le (300000:Nat)∧
 VS.mk [] [(0,PV.ptr (0:Nat) (0:Nat)),(2,PV.int .i64 (0:Int)),(3,PV.int .i64 (0:Int)),(6,PV.bool !decide ((0:Int)=(0:Int))),(10,PV.bool false),(16,PV.bool (decide ((ab rst rst (0:Nat)).1=(ByteArray.mk #[102,105,108,101]).data.toList))),(26,PV.undef),(28,PV.bool false),(51,PV.bool (aw (ab rst rst (0:Nat)).1)),(58,PV.undef),(61,PV.undef),(71,PV.undef),(77,PV.undef),(81,PV.undef),(87,PV.undef),(97,PV.undef)] [((0:Nat),bT (PV.raw (Go.Value.pointer none)) 1 ((ab rst rst (0:Nat)).1) us pw hk hs hn hp port false pn pl hq q hf fg false (aw (ab rst rst (0:Nat)).1) (aB (List.length (ab rst rst (0:Nat)).2.1) (aw (ab rst rst (0:Nat)).1) (0:Int) (ab rst rst (0:Nat)).2.1))]=VS.mk [] [(0,PV.ptr (0:Nat) (0:Nat)),(2,PV.int .i64 (0:Int)),(3,PV.int .i64 (0:Int)),(6,PV.bool !decide ((0:Int)=(0:Int))),(10,PV.bool false),(16,PV.bool (decide ((ab rst rst (0:Nat)).1=(ByteArray.mk #[102,105,108,101]).data.toList))),(26,PV.undef),(28,PV.bool false),(51,PV.bool (aw (ab rst rst (0:Nat)).1)),(58,PV.undef),(61,PV.undef),(71,PV.undef),(77,PV.undef),(81,PV.undef),(87,PV.undef),(97,PV.undef)] [((0:Nat),bT (PV.raw (Go.Value.pointer none)) 1 ((RS.mk (ab rst rst (0:Nat)).1 us pw hk hs hn hp port false pn pl hq q hf fg false (aw (ab rst rst (0:Nat)).1) (aB (List.length (ab rst rst (0:Nat)).2.1) (aw (ab rst rst (0:Nat)).1) (0:Int) (ab rst rst (0:Nat)).2.1)).sc) ((RS.mk (ab rst rst (0:Nat)).1 us pw hk hs hn hp port false pn pl hq q hf fg false (aw (ab rst rst (0:Nat)).1) (aB (List.length (ab rst rst (0:Nat)).2.1) (aw (ab rst rst (0:Nat)).1) (0:Int) (ab rst rst (0:Nat)).2.1)).us) ((RS.mk (ab rst rst (0:Nat)).1 us pw hk hs hn hp port false pn pl hq q hf fg false (aw (ab rst rst (0:Nat)).1) (aB (List.length (ab rst rst (0:Nat)).2.1) (aw (ab rst rst (0:Nat)).1) (0:Int) (ab rst rst (0:Nat)).2.1)).pw) ((RS.mk (ab rst rst (0:Nat)).1 us pw hk hs hn hp port false pn pl hq q hf fg false (aw (ab rst rst (0:Nat)).1) (aB (List.length (ab rst rst (0:Nat)).2.1) (aw (ab rst rst (0:Nat)).1) (0:Int) (ab rst rst (0:Nat)).2.1)).hk) ((RS.mk (ab rst rst (0:Nat)).1 us pw hk hs hn hp port false pn pl hq q hf fg false (aw (ab rst rst (0:Nat)).1) (aB (List.length (ab rst rst (0:Nat)).2.1) (aw (ab rst rst (0:Nat)).1) (0:Int) (ab rst rst (0:Nat)).2.1)).hs) ((RS.mk (ab rst rst (0:Nat)).1 us pw hk hs hn hp port false pn pl hq q hf fg false (aw (ab rst rst (0:Nat)).1) (aB (List.length (ab rst rst (0:Nat)).2.1) (aw (ab rst rst (0:Nat)).1) (0:Int) (ab rst rst (0:Nat)).2.1)).hn) ((RS.mk (ab rst rst (0:Nat)).1 us pw hk hs hn hp port false pn pl hq q hf fg false (aw (ab rst rst (0:Nat)).1) (aB (List.length (ab rst rst (0:Nat)).2.1) (aw (ab rst rst (0:Nat)).1) (0:Int) (ab rst rst (0:Nat)).2.1)).hp) ((RS.mk (ab rst rst (0:Nat)).1 us pw hk hs hn hp port false pn pl hq q hf fg false (aw (ab rst rst (0:Nat)).1) (aB (List.length (ab rst rst (0:Nat)).2.1) (aw (ab rst rst (0:Nat)).1) (0:Int) (ab rst rst (0:Nat)).2.1)).port) ((RS.mk (ab rst rst (0:Nat)).1 us pw hk hs hn hp port false pn pl hq q hf fg false (aw (ab rst rst (0:Nat)).1) (aB (List.length (ab rst rst (0:Nat)).2.1) (aw (ab rst rst (0:Nat)).1) (0:Int) (ab rst rst (0:Nat)).2.1)).opq) ((RS.mk (ab rst rst (0:Nat)).1 us pw hk hs hn hp port false pn pl hq q hf fg false (aw (ab rst rst (0:Nat)).1) (aB (List.length (ab rst rst (0:Nat)).2.1) (aw (ab rst rst (0:Nat)).1) (0:Int) (ab rst rst (0:Nat)).2.1)).pn) ((RS.mk (ab rst rst (0:Nat)).1 us pw hk hs hn hp port false pn pl hq q hf fg false (aw (ab rst rst (0:Nat)).1) (aB (List.length (ab rst rst (0:Nat)).2.1) (aw (ab rst rst (0:Nat)).1) (0:Int) (ab rst rst (0:Nat)).2.1)).pl) ((RS.mk (ab rst rst (0:Nat)).1 us pw hk hs hn hp port false pn pl hq q hf fg false (aw (ab rst rst (0:Nat)).1) (aB (List.length (ab rst rst (0:Nat)).2.1) (aw (ab rst rst (0:Nat)).1) (0:Int) (ab rst rst (0:Nat)).2.1)).hq) ((RS.mk (ab rst rst (0:Nat)).1 us pw hk hs hn hp port false pn pl hq q hf fg false (aw (ab rst rst (0:Nat)).1) (aB (List.length (ab rst rst (0:Nat)).2.1) (aw (ab rst rst (0:Nat)).1) (0:Int) (ab rst rst (0:Nat)).2.1)).q) ((RS.mk (ab rst rst (0:Nat)).1 us pw hk hs hn hp port false pn pl hq q hf fg false (aw (ab rst rst (0:Nat)).1) (aB (List.length (ab rst rst (0:Nat)).2.1) (aw (ab rst rst (0:Nat)).1) (0:Int) (ab rst rst (0:Nat)).2.1)).hf) ((RS.mk (ab rst rst (0:Nat)).1 us pw hk hs hn hp port false pn pl hq q hf fg false (aw (ab rst rst (0:Nat)).1) (aB (List.length (ab rst rst (0:Nat)).2.1) (aw (ab rst rst (0:Nat)).1) (0:Int) (ab rst rst (0:Nat)).2.1)).fg) ((RS.mk (ab rst rst (0:Nat)).1 us pw hk hs hn hp port false pn pl hq q hf fg false (aw (ab rst rst (0:Nat)).1) (aB (List.length (ab rst rst (0:Nat)).2.1) (aw (ab rst rst (0:Nat)).1) (0:Int) (ab rst rst (0:Nat)).2.1)).bare) ((RS.mk (ab rst rst (0:Nat)).1 us pw hk hs hn hp port false pn pl hq q hf fg false (aw (ab rst rst (0:Nat)).1) (aB (List.length (ab rst rst (0:Nat)).2.1) (aw (ab rst rst (0:Nat)).1) (0:Int) (ab rst rst (0:Nat)).2.1)).sp) ((RS.mk (ab rst rst (0:Nat)).1 us pw hk hs hn hp port false pn pl hq q hf fg false (aw (ab rst rst (0:Nat)).1) (aB (List.length (ab rst rst (0:Nat)).2.1) (aw (ab rst rst (0:Nat)).1) (0:Int) (ab rst rst (0:Nat)).2.1)).rst))]∧
 ((RS.mk sc us pw hk hs hn hp port false pn pl hq q hf fg bare sp rst).aq=(RS.mk (ab rst rst (0:Nat)).1 us pw hk hs hn hp port false pn pl hq q hf fg false (aw (ab rst rst (0:Nat)).1) (aB (List.length (ab rst rst (0:Nat)).2.1) (aw (ab rst rst (0:Nat)).1) (0:Int) (ab rst rst (0:Nat)).2.1)).b9∧
 List.length (RS.mk (ab rst rst (0:Nat)).1 us pw hk hs hn hp port false pn pl hq q hf fg false (aw (ab rst rst (0:Nat)).1) (aB (List.length (ab rst rst (0:Nat)).2.1) (aw (ab rst rst (0:Nat)).1) (0:Int) (ab rst rst (0:Nat)).2.1)).rst≤(300000:Nat)∧
 (RS.mk (ab rst rst (0:Nat)).1 us pw hk hs hn hp port false pn pl hq q hf fg false (aw (ab rst rst (0:Nat)).1) (aB (List.length (ab rst rst (0:Nat)).2.1) (aw (ab rst rst (0:Nat)).1) (0:Int) (ab rst rst (0:Nat)).2.1)).pl.length≤(100000:Nat))∧
 AG k sc us pw hk hs hn hp port pn pl hq q hf fg bare sp rst)∧
 (aw (ab rst rst (0:Nat)).1=false→
 True∧
 ((aj (ab rst rst (0:Nat)).2.1 (ByteArray.mk #[47,47]).data.toList).2=true→
 VS.mk [] [(0,PV.ptr (0:Nat) (0:Nat)),(2,PV.int .i64 (0:Int)),(3,PV.int .i64 (0:Int)),(6,PV.bool !decide ((0:Int)=(0:Int))),(10,PV.bool false),(16,PV.bool (decide ((ab rst rst (0:Nat)).1=(ByteArray.mk #[102,105,108,101]).data.toList))),(26,PV.undef),(28,PV.bool false),(51,PV.bool (aw (ab rst rst (0:Nat)).1)),(58,PV.bool (aj (ab rst rst (0:Nat)).2.1 (ByteArray.mk #[47,47]).data.toList).2),(61,PV.undef),(71,PV.undef),(77,PV.undef),(81,PV.undef),(87,PV.undef),(97,PV.undef)] [((0:Nat),bT (PV.raw (Go.Value.pointer none)) 1 ((ab rst rst (0:Nat)).1) us pw hk hs hn hp port false pn pl hq q hf fg false (aw (ab rst rst (0:Nat)).1) ((aj (ab rst rst (0:Nat)).2.1 (ByteArray.mk #[47,47]).data.toList).1))]=VS.mk [] [(0,PV.ptr (0:Nat) (0:Nat)),(2,PV.int .i64 (0:Int)),(3,PV.int .i64 (0:Int)),(6,PV.bool !decide ((0:Int)=(0:Int))),(10,PV.bool false),(16,PV.bool (decide ((ab rst rst (0:Nat)).1=(ByteArray.mk #[102,105,108,101]).data.toList))),(26,PV.undef),(28,PV.bool false),(51,PV.bool (aw (ab rst rst (0:Nat)).1)),(58,PV.bool (aj (ab rst rst (0:Nat)).2.1 (ByteArray.mk #[47,47]).data.toList).2),(61,PV.undef),(71,PV.undef),(77,PV.undef),(81,PV.undef),(87,PV.undef),(97,PV.undef)] [((0:Nat),bT (PV.raw (Go.Value.pointer none)) 1 ((RS.mk (ab rst rst (0:Nat)).1 us pw hk hs hn hp port false pn pl hq q hf fg false (aw (ab rst rst (0:Nat)).1) (aj (ab rst rst (0:Nat)).2.1 (ByteArray.mk #[47,47]).data.toList).1).sc) ((RS.mk (ab rst rst (0:Nat)).1 us pw hk hs hn hp port false pn pl hq q hf fg false (aw (ab rst rst (0:Nat)).1) (aj (ab rst rst (0:Nat)).2.1 (ByteArray.mk #[47,47]).data.toList).1).us) ((RS.mk (ab rst rst (0:Nat)).1 us pw hk hs hn hp port false pn pl hq q hf fg false (aw (ab rst rst (0:Nat)).1) (aj (ab rst rst (0:Nat)).2.1 (ByteArray.mk #[47,47]).data.toList).1).pw) ((RS.mk (ab rst rst (0:Nat)).1 us pw hk hs hn hp port false pn pl hq q hf fg false (aw (ab rst rst (0:Nat)).1) (aj (ab rst rst (0:Nat)).2.1 (ByteArray.mk #[47,47]).data.toList).1).hk) ((RS.mk (ab rst rst (0:Nat)).1 us pw hk hs hn hp port false pn pl hq q hf fg false (aw (ab rst rst (0:Nat)).1) (aj (ab rst rst (0:Nat)).2.1 (ByteArray.mk #[47,47]).data.toList).1).hs) ((RS.mk (ab rst rst (0:Nat)).1 us pw hk hs hn hp port false pn pl hq q hf fg false (aw (ab rst rst (0:Nat)).1) (aj (ab rst rst (0:Nat)).2.1 (ByteArray.mk #[47,47]).data.toList).1).hn) ((RS.mk (ab rst rst (0:Nat)).1 us pw hk hs hn hp port false pn pl hq q hf fg false (aw (ab rst rst (0:Nat)).1) (aj (ab rst rst (0:Nat)).2.1 (ByteArray.mk #[47,47]).data.toList).1).hp) ((RS.mk (ab rst rst (0:Nat)).1 us pw hk hs hn hp port false pn pl hq q hf fg false (aw (ab rst rst (0:Nat)).1) (aj (ab rst rst (0:Nat)).2.1 (ByteArray.mk #[47,47]).data.toList).1).port) ((RS.mk (ab rst rst (0:Nat)).1 us pw hk hs hn hp port false pn pl hq q hf fg false (aw (ab rst rst (0:Nat)).1) (aj (ab rst rst (0:Nat)).2.1 (ByteArray.mk #[47,47]).data.toList).1).opq) ((RS.mk (ab rst rst (0:Nat)).1 us pw hk hs hn hp port false pn pl hq q hf fg false (aw (ab rst rst (0:Nat)).1) (aj (ab rst rst (0:Nat)).2.1 (ByteArray.mk #[47,47]).data.toList).1).pn) ((RS.mk (ab rst rst (0:Nat)).1 us pw hk hs hn hp port false pn pl hq q hf fg false (aw (ab rst rst (0:Nat)).1) (aj (ab rst rst (0:Nat)).2.1 (ByteArray.mk #[47,47]).data.toList).1).pl) ((RS.mk (ab rst rst (0:Nat)).1 us pw hk hs hn hp port false pn pl hq q hf fg false (aw (ab rst rst (0:Nat)).1) (aj (ab rst rst (0:Nat)).2.1 (ByteArray.mk #[47,47]).data.toList).1).hq) ((RS.mk (ab rst rst (0:Nat)).1 us pw hk hs hn hp port false pn pl hq q hf fg false (aw (ab rst rst (0:Nat)).1) (aj (ab rst rst (0:Nat)).2.1 (ByteArray.mk #[47,47]).data.toList).1).q) ((RS.mk (ab rst rst (0:Nat)).1 us pw hk hs hn hp port false pn pl hq q hf fg false (aw (ab rst rst (0:Nat)).1) (aj (ab rst rst (0:Nat)).2.1 (ByteArray.mk #[47,47]).data.toList).1).hf) ((RS.mk (ab rst rst (0:Nat)).1 us pw hk hs hn hp port false pn pl hq q hf fg false (aw (ab rst rst (0:Nat)).1) (aj (ab rst rst (0:Nat)).2.1 (ByteArray.mk #[47,47]).data.toList).1).fg) ((RS.mk (ab rst rst (0:Nat)).1 us pw hk hs hn hp port false pn pl hq q hf fg false (aw (ab rst rst (0:Nat)).1) (aj (ab rst rst (0:Nat)).2.1 (ByteArray.mk #[47,47]).data.toList).1).bare) ((RS.mk (ab rst rst (0:Nat)).1 us pw hk hs hn hp port false pn pl hq q hf fg false (aw (ab rst rst (0:Nat)).1) (aj (ab rst rst (0:Nat)).2.1 (ByteArray.mk #[47,47]).data.toList).1).sp) ((RS.mk (ab rst rst (0:Nat)).1 us pw hk hs hn hp port false pn pl hq q hf fg false (aw (ab rst rst (0:Nat)).1) (aj (ab rst rst (0:Nat)).2.1 (ByteArray.mk #[47,47]).data.toList).1).rst))]∧
 ((RS.mk sc us pw hk hs hn hp port false pn pl hq q hf fg bare sp rst).aq=(RS.mk (ab rst rst (0:Nat)).1 us pw hk hs hn hp port false pn pl hq q hf fg false (aw (ab rst rst (0:Nat)).1) (aj (ab rst rst (0:Nat)).2.1 (ByteArray.mk #[47,47]).data.toList).1).b9∧
 List.length (RS.mk (ab rst rst (0:Nat)).1 us pw hk hs hn hp port false pn pl hq q hf fg false (aw (ab rst rst (0:Nat)).1) (aj (ab rst rst (0:Nat)).2.1 (ByteArray.mk #[47,47]).data.toList).1).rst≤(300000:Nat)∧
 (RS.mk (ab rst rst (0:Nat)).1 us pw hk hs hn hp port false pn pl hq q hf fg false (aw (ab rst rst (0:Nat)).1) (aj (ab rst rst (0:Nat)).2.1 (ByteArray.mk #[47,47]).data.toList).1).pl.length≤(100000:Nat))∧
 AG k sc us pw hk hs hn hp port pn pl hq q hf fg bare sp rst)∧
 ((aj (ab rst rst (0:Nat)).2.1 (ByteArray.mk #[47,47]).data.toList).2=false→
 True∧
 ((aj (aj (ab rst rst (0:Nat)).2.1 (ByteArray.mk #[47,47]).data.toList).1 (ByteArray.mk #[47]).data.toList).2=true→
 VS.mk [] [(0,PV.ptr (0:Nat) (0:Nat)),(2,PV.int .i64 (0:Int)),(3,PV.int .i64 (0:Int)),(6,PV.bool !decide ((0:Int)=(0:Int))),(10,PV.bool false),(16,PV.bool (decide ((ab rst rst (0:Nat)).1=(ByteArray.mk #[102,105,108,101]).data.toList))),(26,PV.undef),(28,PV.bool false),(51,PV.bool (aw (ab rst rst (0:Nat)).1)),(58,PV.bool (aj (ab rst rst (0:Nat)).2.1 (ByteArray.mk #[47,47]).data.toList).2),(61,PV.bool (aj (aj (ab rst rst (0:Nat)).2.1 (ByteArray.mk #[47,47]).data.toList).1 (ByteArray.mk #[47]).data.toList).2),(71,PV.undef),(77,PV.undef),(81,PV.undef),(87,PV.undef),(97,PV.undef)] [((0:Nat),bT (PV.raw (Go.Value.pointer none)) 1 ((ab rst rst (0:Nat)).1) us pw hk hs hn hp port false pn pl hq q hf fg false (aw (ab rst rst (0:Nat)).1) ((aj (aj (ab rst rst (0:Nat)).2.1 (ByteArray.mk #[47,47]).data.toList).1 (ByteArray.mk #[47]).data.toList).1))]=VS.mk [] [(0,PV.ptr (0:Nat) (0:Nat)),(2,PV.int .i64 (0:Int)),(3,PV.int .i64 (0:Int)),(6,PV.bool !decide ((0:Int)=(0:Int))),(10,PV.bool false),(16,PV.bool (decide ((ab rst rst (0:Nat)).1=(ByteArray.mk #[102,105,108,101]).data.toList))),(26,PV.undef),(28,PV.bool false),(51,PV.bool (aw (ab rst rst (0:Nat)).1)),(58,PV.bool (aj (ab rst rst (0:Nat)).2.1 (ByteArray.mk #[47,47]).data.toList).2),(61,PV.bool (aj (aj (ab rst rst (0:Nat)).2.1 (ByteArray.mk #[47,47]).data.toList).1 (ByteArray.mk #[47]).data.toList).2),(71,PV.undef),(77,PV.undef),(81,PV.undef),(87,PV.undef),(97,PV.undef)] [((0:Nat),bT (PV.raw (Go.Value.pointer none)) 1 ((RS.mk (ab rst rst (0:Nat)).1 us pw hk hs hn hp port false pn pl hq q hf fg false (aw (ab rst rst (0:Nat)).1) (aj (aj (ab rst rst (0:Nat)).2.1 (ByteArray.mk #[47,47]).data.toList).1 (ByteArray.mk #[47]).data.toList).1).sc) ((RS.mk (ab rst rst (0:Nat)).1 us pw hk hs hn hp port false pn pl hq q hf fg false (aw (ab rst rst (0:Nat)).1) (aj (aj (ab rst rst (0:Nat)).2.1 (ByteArray.mk #[47,47]).data.toList).1 (ByteArray.mk #[47]).data.toList).1).us) ((RS.mk (ab rst rst (0:Nat)).1 us pw hk hs hn hp port false pn pl hq q hf fg false (aw (ab rst rst (0:Nat)).1) (aj (aj (ab rst rst (0:Nat)).2.1 (ByteArray.mk #[47,47]).data.toList).1 (ByteArray.mk #[47]).data.toList).1).pw) ((RS.mk (ab rst rst (0:Nat)).1 us pw hk hs hn hp port false pn pl hq q hf fg false (aw (ab rst rst (0:Nat)).1) (aj (aj (ab rst rst (0:Nat)).2.1 (ByteArray.mk #[47,47]).data.toList).1 (ByteArray.mk #[47]).data.toList).1).hk) ((RS.mk (ab rst rst (0:Nat)).1 us pw hk hs hn hp port false pn pl hq q hf fg false (aw (ab rst rst (0:Nat)).1) (aj (aj (ab rst rst (0:Nat)).2.1 (ByteArray.mk #[47,47]).data.toList).1 (ByteArray.mk #[47]).data.toList).1).hs) ((RS.mk (ab rst rst (0:Nat)).1 us pw hk hs hn hp port false pn pl hq q hf fg false (aw (ab rst rst (0:Nat)).1) (aj (aj (ab rst rst (0:Nat)).2.1 (ByteArray.mk #[47,47]).data.toList).1 (ByteArray.mk #[47]).data.toList).1).hn) ((RS.mk (ab rst rst (0:Nat)).1 us pw hk hs hn hp port false pn pl hq q hf fg false (aw (ab rst rst (0:Nat)).1) (aj (aj (ab rst rst (0:Nat)).2.1 (ByteArray.mk #[47,47]).data.toList).1 (ByteArray.mk #[47]).data.toList).1).hp) ((RS.mk (ab rst rst (0:Nat)).1 us pw hk hs hn hp port false pn pl hq q hf fg false (aw (ab rst rst (0:Nat)).1) (aj (aj (ab rst rst (0:Nat)).2.1 (ByteArray.mk #[47,47]).data.toList).1 (ByteArray.mk #[47]).data.toList).1).port) ((RS.mk (ab rst rst (0:Nat)).1 us pw hk hs hn hp port false pn pl hq q hf fg false (aw (ab rst rst (0:Nat)).1) (aj (aj (ab rst rst (0:Nat)).2.1 (ByteArray.mk #[47,47]).data.toList).1 (ByteArray.mk #[47]).data.toList).1).opq) ((RS.mk (ab rst rst (0:Nat)).1 us pw hk hs hn hp port false pn pl hq q hf fg false (aw (ab rst rst (0:Nat)).1) (aj (aj (ab rst rst (0:Nat)).2.1 (ByteArray.mk #[47,47]).data.toList).1 (ByteArray.mk #[47]).data.toList).1).pn) ((RS.mk (ab rst rst (0:Nat)).1 us pw hk hs hn hp port false pn pl hq q hf fg false (aw (ab rst rst (0:Nat)).1) (aj (aj (ab rst rst (0:Nat)).2.1 (ByteArray.mk #[47,47]).data.toList).1 (ByteArray.mk #[47]).data.toList).1).pl) ((RS.mk (ab rst rst (0:Nat)).1 us pw hk hs hn hp port false pn pl hq q hf fg false (aw (ab rst rst (0:Nat)).1) (aj (aj (ab rst rst (0:Nat)).2.1 (ByteArray.mk #[47,47]).data.toList).1 (ByteArray.mk #[47]).data.toList).1).hq) ((RS.mk (ab rst rst (0:Nat)).1 us pw hk hs hn hp port false pn pl hq q hf fg false (aw (ab rst rst (0:Nat)).1) (aj (aj (ab rst rst (0:Nat)).2.1 (ByteArray.mk #[47,47]).data.toList).1 (ByteArray.mk #[47]).data.toList).1).q) ((RS.mk (ab rst rst (0:Nat)).1 us pw hk hs hn hp port false pn pl hq q hf fg false (aw (ab rst rst (0:Nat)).1) (aj (aj (ab rst rst (0:Nat)).2.1 (ByteArray.mk #[47,47]).data.toList).1 (ByteArray.mk #[47]).data.toList).1).hf) ((RS.mk (ab rst rst (0:Nat)).1 us pw hk hs hn hp port false pn pl hq q hf fg false (aw (ab rst rst (0:Nat)).1) (aj (aj (ab rst rst (0:Nat)).2.1 (ByteArray.mk #[47,47]).data.toList).1 (ByteArray.mk #[47]).data.toList).1).fg) ((RS.mk (ab rst rst (0:Nat)).1 us pw hk hs hn hp port false pn pl hq q hf fg false (aw (ab rst rst (0:Nat)).1) (aj (aj (ab rst rst (0:Nat)).2.1 (ByteArray.mk #[47,47]).data.toList).1 (ByteArray.mk #[47]).data.toList).1).bare) ((RS.mk (ab rst rst (0:Nat)).1 us pw hk hs hn hp port false pn pl hq q hf fg false (aw (ab rst rst (0:Nat)).1) (aj (aj (ab rst rst (0:Nat)).2.1 (ByteArray.mk #[47,47]).data.toList).1 (ByteArray.mk #[47]).data.toList).1).sp) ((RS.mk (ab rst rst (0:Nat)).1 us pw hk hs hn hp port false pn pl hq q hf fg false (aw (ab rst rst (0:Nat)).1) (aj (aj (ab rst rst (0:Nat)).2.1 (ByteArray.mk #[47,47]).data.toList).1 (ByteArray.mk #[47]).data.toList).1).rst))]∧
 ((RS.mk sc us pw hk hs hn hp port false pn pl hq q hf fg bare sp rst).aq=((RS.mk (ab rst rst (0:Nat)).1 us pw hk hs hn hp port false pn pl hq q hf fg false (aw (ab rst rst (0:Nat)).1) (aj (aj (ab rst rst (0:Nat)).2.1 (ByteArray.mk #[47,47]).data.toList).1 (ByteArray.mk #[47]).data.toList).1).path.tail,(0:Int))∧
 List.length (RS.mk (ab rst rst (0:Nat)).1 us pw hk hs hn hp port false pn pl hq q hf fg false (aw (ab rst rst (0:Nat)).1) (aj (aj (ab rst rst (0:Nat)).2.1 (ByteArray.mk #[47,47]).data.toList).1 (ByteArray.mk #[47]).data.toList).1).rst≤(300000:Nat)∧
 (RS.mk (ab rst rst (0:Nat)).1 us pw hk hs hn hp port false pn pl hq q hf fg false (aw (ab rst rst (0:Nat)).1) (aj (aj (ab rst rst (0:Nat)).2.1 (ByteArray.mk #[47,47]).data.toList).1 (ByteArray.mk #[47]).data.toList).1).pl.length≤(100000:Nat))∧
 IY k sc us pw hk hs hn hp port pn pl hq q hf fg bare sp rst)∧
 ((aj (aj (ab rst rst (0:Nat)).2.1 (ByteArray.mk #[47,47]).data.toList).1 (ByteArray.mk #[47]).data.toList).2=false→
 (List.length (aj (aj (ab rst rst (0:Nat)).2.1 (ByteArray.mk #[47,47]).data.toList).1 (ByteArray.mk #[47]).data.toList).1).le (300000:Nat)∧
 (aa (aj (aj (ab rst rst (0:Nat)).2.1 (ByteArray.mk #[47,47]).data.toList).1 (ByteArray.mk #[47]).data.toList).1 ↑(aE (aj (aj (ab rst rst (0:Nat)).2.1 (ByteArray.mk #[47,47]).data.toList).1 (ByteArray.mk #[47]).data.toList).1)).length.le (300000:Nat)∧
 (List.length (bG (aa (aj (aj (ab rst rst (0:Nat)).2.1 (ByteArray.mk #[47,47]).data.toList).1 (ByteArray.mk #[47]).data.toList).1 ↑(aE (aj (aj (ab rst rst (0:Nat)).2.1 (ByteArray.mk #[47,47]).data.toList).1 (ByteArray.mk #[47]).data.toList).1)))).le (300000:Nat)∧
 k (PV.int .i64 (0:Int)) [bT (PV.raw (Go.Value.pointer none)) 0 ((ab rst rst (0:Nat)).1) us pw hk hs hn hp port true false ([nI (ae (aj (aj (ab rst rst (0:Nat)).2.1 (ByteArray.mk #[47,47]).data.toList).1 (ByteArray.mk #[47]).data.toList).1 ↑(aE (aj (aj (ab rst rst (0:Nat)).2.1 (ByteArray.mk #[47,47]).data.toList).1 (ByteArray.mk #[47]).data.toList).1)) (aa (aj (aj (ab rst rst (0:Nat)).2.1 (ByteArray.mk #[47,47]).data.toList).1 (ByteArray.mk #[47]).data.toList).1 ↑(aE (aj (aj (ab rst rst (0:Nat)).2.1 (ByteArray.mk #[47,47]).data.toList).1 (ByteArray.mk #[47]).data.toList).1))]) (dX (aa (aj (aj (ab rst rst (0:Nat)).2.1 (ByteArray.mk #[47,47]).data.toList).1 (ByteArray.mk #[47]).data.toList).1 ↑(aE (aj (aj (ab rst rst (0:Nat)).2.1 (ByteArray.mk #[47,47]).data.toList).1 (ByteArray.mk #[47]).data.toList).1)) hq) (dY (aw (ab rst rst (0:Nat)).1) (aa (aj (aj (ab rst rst (0:Nat)).2.1 (ByteArray.mk #[47,47]).data.toList).1 (ByteArray.mk #[47]).data.toList).1 ↑(aE (aj (aj (ab rst rst (0:Nat)).2.1 (ByteArray.mk #[47,47]).data.toList).1 (ByteArray.mk #[47]).data.toList).1)) q) (dZ (bG (aa (aj (aj (ab rst rst (0:Nat)).2.1 (ByteArray.mk #[47,47]).data.toList).1 (ByteArray.mk #[47]).data.toList).1 ↑(aE (aj (aj (ab rst rst (0:Nat)).2.1 (ByteArray.mk #[47,47]).data.toList).1 (ByteArray.mk #[47]).data.toList).1))) hf) (ee (bG (aa (aj (aj (ab rst rst (0:Nat)).2.1 (ByteArray.mk #[47,47]).data.toList).1 (ByteArray.mk #[47]).data.toList).1 ↑(aE (aj (aj (ab rst rst (0:Nat)).2.1 (ByteArray.mk #[47,47]).data.toList).1 (ByteArray.mk #[47]).data.toList).1))) fg) false (aw (ab rst rst (0:Nat)).1) (eh (bG (aa (aj (aj (ab rst rst (0:Nat)).2.1 (ByteArray.mk #[47,47]).data.toList).1 (ByteArray.mk #[47]).data.toList).1 ↑(aE (aj (aj (ab rst rst (0:Nat)).2.1 (ByteArray.mk #[47,47]).data.toList).1 (ByteArray.mk #[47]).data.toList).1))))])))))∧
 (aw (ab rst rst (0:Nat)).1=!true→
 (false=false→
 false=true→
 True)∧
 (false=true→
 VS.mk [] [(0,PV.ptr (0:Nat) (0:Nat)),(2,PV.int .i64 (0:Int)),(3,PV.int .i64 (0:Int)),(6,PV.bool !decide ((0:Int)=(0:Int))),(10,PV.bool false),(16,PV.bool (decide ((ab rst rst (0:Nat)).1=(ByteArray.mk #[102,105,108,101]).data.toList))),(26,PV.undef),(28,PV.bool false),(51,PV.undef),(58,PV.undef),(61,PV.undef),(71,PV.undef),(77,PV.undef),(81,PV.undef),(87,PV.undef),(97,PV.undef)] [((0:Nat),bT (PV.raw (Go.Value.pointer none)) 1 ((ab rst rst (0:Nat)).1) us pw hk hs hn hp port false pn pl hq q hf fg false (aw (ab rst rst (0:Nat)).1) ((ab rst rst (0:Nat)).2.1))]=VS.mk [] [] []∧
 False∧
 ∀(x:RS),False→
 False)∧
 (false=false→
 (aw (ab rst rst (0:Nat)).1=true→
 (List.length (ab rst rst (0:Nat)).2.1).le (300000:Nat)∧
 VS.mk [] [(0,PV.ptr (0:Nat) (0:Nat)),(2,PV.int .i64 (0:Int)),(3,PV.int .i64 (0:Int)),(6,PV.bool !decide ((0:Int)=(0:Int))),(10,PV.bool false),(16,PV.bool (decide ((ab rst rst (0:Nat)).1=(ByteArray.mk #[102,105,108,101]).data.toList))),(26,PV.undef),(28,PV.bool false),(51,PV.bool (aw (ab rst rst (0:Nat)).1)),(58,PV.undef),(61,PV.undef),(71,PV.undef),(77,PV.undef),(81,PV.undef),(87,PV.undef),(97,PV.undef)] [((0:Nat),bT (PV.raw (Go.Value.pointer none)) 1 ((ab rst rst (0:Nat)).1) us pw hk hs hn hp port false pn pl hq q hf fg false (aw (ab rst rst (0:Nat)).1) (aB (List.length (ab rst rst (0:Nat)).2.1) (aw (ab rst rst (0:Nat)).1) (0:Int) (ab rst rst (0:Nat)).2.1))]=VS.mk [] [(0,PV.ptr (0:Nat) (0:Nat)),(2,PV.int .i64 (0:Int)),(3,PV.int .i64 (0:Int)),(6,PV.bool !decide ((0:Int)=(0:Int))),(10,PV.bool false),(16,PV.bool (decide ((ab rst rst (0:Nat)).1=(ByteArray.mk #[102,105,108,101]).data.toList))),(26,PV.undef),(28,PV.bool false),(51,PV.bool (aw (ab rst rst (0:Nat)).1)),(58,PV.undef),(61,PV.undef),(71,PV.undef),(77,PV.undef),(81,PV.undef),(87,PV.undef),(97,PV.undef)] [((0:Nat),bT (PV.raw (Go.Value.pointer none)) 1 ((RS.mk (ab rst rst (0:Nat)).1 us pw hk hs hn hp port false pn pl hq q hf fg false (aw (ab rst rst (0:Nat)).1) (aB (List.length (ab rst rst (0:Nat)).2.1) (aw (ab rst rst (0:Nat)).1) (0:Int) (ab rst rst (0:Nat)).2.1)).sc) ((RS.mk (ab rst rst (0:Nat)).1 us pw hk hs hn hp port false pn pl hq q hf fg false (aw (ab rst rst (0:Nat)).1) (aB (List.length (ab rst rst (0:Nat)).2.1) (aw (ab rst rst (0:Nat)).1) (0:Int) (ab rst rst (0:Nat)).2.1)).us) ((RS.mk (ab rst rst (0:Nat)).1 us pw hk hs hn hp port false pn pl hq q hf fg false (aw (ab rst rst (0:Nat)).1) (aB (List.length (ab rst rst (0:Nat)).2.1) (aw (ab rst rst (0:Nat)).1) (0:Int) (ab rst rst (0:Nat)).2.1)).pw) ((RS.mk (ab rst rst (0:Nat)).1 us pw hk hs hn hp port false pn pl hq q hf fg false (aw (ab rst rst (0:Nat)).1) (aB (List.length (ab rst rst (0:Nat)).2.1) (aw (ab rst rst (0:Nat)).1) (0:Int) (ab rst rst (0:Nat)).2.1)).hk) ((RS.mk (ab rst rst (0:Nat)).1 us pw hk hs hn hp port false pn pl hq q hf fg false (aw (ab rst rst (0:Nat)).1) (aB (List.length (ab rst rst (0:Nat)).2.1) (aw (ab rst rst (0:Nat)).1) (0:Int) (ab rst rst (0:Nat)).2.1)).hs) ((RS.mk (ab rst rst (0:Nat)).1 us pw hk hs hn hp port false pn pl hq q hf fg false (aw (ab rst rst (0:Nat)).1) (aB (List.length (ab rst rst (0:Nat)).2.1) (aw (ab rst rst (0:Nat)).1) (0:Int) (ab rst rst (0:Nat)).2.1)).hn) ((RS.mk (ab rst rst (0:Nat)).1 us pw hk hs hn hp port false pn pl hq q hf fg false (aw (ab rst rst (0:Nat)).1) (aB (List.length (ab rst rst (0:Nat)).2.1) (aw (ab rst rst (0:Nat)).1) (0:Int) (ab rst rst (0:Nat)).2.1)).hp) ((RS.mk (ab rst rst (0:Nat)).1 us pw hk hs hn hp port false pn pl hq q hf fg false (aw (ab rst rst (0:Nat)).1) (aB (List.length (ab rst rst (0:Nat)).2.1) (aw (ab rst rst (0:Nat)).1) (0:Int) (ab rst rst (0:Nat)).2.1)).port) ((RS.mk (ab rst rst (0:Nat)).1 us pw hk hs hn hp port false pn pl hq q hf fg false (aw (ab rst rst (0:Nat)).1) (aB (List.length (ab rst rst (0:Nat)).2.1) (aw (ab rst rst (0:Nat)).1) (0:Int) (ab rst rst (0:Nat)).2.1)).opq) ((RS.mk (ab rst rst (0:Nat)).1 us pw hk hs hn hp port false pn pl hq q hf fg false (aw (ab rst rst (0:Nat)).1) (aB (List.length (ab rst rst (0:Nat)).2.1) (aw (ab rst rst (0:Nat)).1) (0:Int) (ab rst rst (0:Nat)).2.1)).pn) ((RS.mk (ab rst rst (0:Nat)).1 us pw hk hs hn hp port false pn pl hq q hf fg false (aw (ab rst rst (0:Nat)).1) (aB (List.length (ab rst rst (0:Nat)).2.1) (aw (ab rst rst (0:Nat)).1) (0:Int) (ab rst rst (0:Nat)).2.1)).pl) ((RS.mk (ab rst rst (0:Nat)).1 us pw hk hs hn hp port false pn pl hq q hf fg false (aw (ab rst rst (0:Nat)).1) (aB (List.length (ab rst rst (0:Nat)).2.1) (aw (ab rst rst (0:Nat)).1) (0:Int) (ab rst rst (0:Nat)).2.1)).hq) ((RS.mk (ab rst rst (0:Nat)).1 us pw hk hs hn hp port false pn pl hq q hf fg false (aw (ab rst rst (0:Nat)).1) (aB (List.length (ab rst rst (0:Nat)).2.1) (aw (ab rst rst (0:Nat)).1) (0:Int) (ab rst rst (0:Nat)).2.1)).q) ((RS.mk (ab rst rst (0:Nat)).1 us pw hk hs hn hp port false pn pl hq q hf fg false (aw (ab rst rst (0:Nat)).1) (aB (List.length (ab rst rst (0:Nat)).2.1) (aw (ab rst rst (0:Nat)).1) (0:Int) (ab rst rst (0:Nat)).2.1)).hf) ((RS.mk (ab rst rst (0:Nat)).1 us pw hk hs hn hp port false pn pl hq q hf fg false (aw (ab rst rst (0:Nat)).1) (aB (List.length (ab rst rst (0:Nat)).2.1) (aw (ab rst rst (0:Nat)).1) (0:Int) (ab rst rst (0:Nat)).2.1)).fg) ((RS.mk (ab rst rst (0:Nat)).1 us pw hk hs hn hp port false pn pl hq q hf fg false (aw (ab rst rst (0:Nat)).1) (aB (List.length (ab rst rst (0:Nat)).2.1) (aw (ab rst rst (0:Nat)).1) (0:Int) (ab rst rst (0:Nat)).2.1)).bare) ((RS.mk (ab rst rst (0:Nat)).1 us pw hk hs hn hp port false pn pl hq q hf fg false (aw (ab rst rst (0:Nat)).1) (aB (List.length (ab rst rst (0:Nat)).2.1) (aw (ab rst rst (0:Nat)).1) (0:Int) (ab rst rst (0:Nat)).2.1)).sp) ((RS.mk (ab rst rst (0:Nat)).1 us pw hk hs hn hp port false pn pl hq q hf fg false (aw (ab rst rst (0:Nat)).1) (aB (List.length (ab rst rst (0:Nat)).2.1) (aw (ab rst rst (0:Nat)).1) (0:Int) (ab rst rst (0:Nat)).2.1)).rst))]∧
 ((RS.mk sc us pw hk hs hn hp port false pn pl hq q hf fg bare sp rst).aq=(RS.mk (ab rst rst (0:Nat)).1 us pw hk hs hn hp port false pn pl hq q hf fg false (aw (ab rst rst (0:Nat)).1) (aB (List.length (ab rst rst (0:Nat)).2.1) (aw (ab rst rst (0:Nat)).1) (0:Int) (ab rst rst (0:Nat)).2.1)).b9∧
 List.length (RS.mk (ab rst rst (0:Nat)).1 us pw hk hs hn hp port false pn pl hq q hf fg false (aw (ab rst rst (0:Nat)).1) (aB (List.length (ab rst rst (0:Nat)).2.1) (aw (ab rst rst (0:Nat)).1) (0:Int) (ab rst rst (0:Nat)).2.1)).rst≤(300000:Nat)∧
 (RS.mk (ab rst rst (0:Nat)).1 us pw hk hs hn hp port false pn pl hq q hf fg false (aw (ab rst rst (0:Nat)).1) (aB (List.length (ab rst rst (0:Nat)).2.1) (aw (ab rst rst (0:Nat)).1) (0:Int) (ab rst rst (0:Nat)).2.1)).pl.length≤(100000:Nat))∧
 AG k sc us pw hk hs hn hp port pn pl hq q hf fg bare sp rst)∧
 (aw (ab rst rst (0:Nat)).1=false→
 True∧
 ((aj (ab rst rst (0:Nat)).2.1 (ByteArray.mk #[47,47]).data.toList).2=true→
 VS.mk [] [(0,PV.ptr (0:Nat) (0:Nat)),(2,PV.int .i64 (0:Int)),(3,PV.int .i64 (0:Int)),(6,PV.bool !decide ((0:Int)=(0:Int))),(10,PV.bool false),(16,PV.bool (decide ((ab rst rst (0:Nat)).1=(ByteArray.mk #[102,105,108,101]).data.toList))),(26,PV.undef),(28,PV.bool false),(51,PV.bool (aw (ab rst rst (0:Nat)).1)),(58,PV.bool (aj (ab rst rst (0:Nat)).2.1 (ByteArray.mk #[47,47]).data.toList).2),(61,PV.undef),(71,PV.undef),(77,PV.undef),(81,PV.undef),(87,PV.undef),(97,PV.undef)] [((0:Nat),bT (PV.raw (Go.Value.pointer none)) 1 ((ab rst rst (0:Nat)).1) us pw hk hs hn hp port false pn pl hq q hf fg false (aw (ab rst rst (0:Nat)).1) ((aj (ab rst rst (0:Nat)).2.1 (ByteArray.mk #[47,47]).data.toList).1))]=VS.mk [] [(0,PV.ptr (0:Nat) (0:Nat)),(2,PV.int .i64 (0:Int)),(3,PV.int .i64 (0:Int)),(6,PV.bool !decide ((0:Int)=(0:Int))),(10,PV.bool false),(16,PV.bool (decide ((ab rst rst (0:Nat)).1=(ByteArray.mk #[102,105,108,101]).data.toList))),(26,PV.undef),(28,PV.bool false),(51,PV.bool (aw (ab rst rst (0:Nat)).1)),(58,PV.bool (aj (ab rst rst (0:Nat)).2.1 (ByteArray.mk #[47,47]).data.toList).2),(61,PV.undef),(71,PV.undef),(77,PV.undef),(81,PV.undef),(87,PV.undef),(97,PV.undef)] [((0:Nat),bT (PV.raw (Go.Value.pointer none)) 1 ((RS.mk (ab rst rst (0:Nat)).1 us pw hk hs hn hp port false pn pl hq q hf fg false (aw (ab rst rst (0:Nat)).1) (aj (ab rst rst (0:Nat)).2.1 (ByteArray.mk #[47,47]).data.toList).1).sc) ((RS.mk (ab rst rst (0:Nat)).1 us pw hk hs hn hp port false pn pl hq q hf fg false (aw (ab rst rst (0:Nat)).1) (aj (ab rst rst (0:Nat)).2.1 (ByteArray.mk #[47,47]).data.toList).1).us) ((RS.mk (ab rst rst (0:Nat)).1 us pw hk hs hn hp port false pn pl hq q hf fg false (aw (ab rst rst (0:Nat)).1) (aj (ab rst rst (0:Nat)).2.1 (ByteArray.mk #[47,47]).data.toList).1).pw) ((RS.mk (ab rst rst (0:Nat)).1 us pw hk hs hn hp port false pn pl hq q hf fg false (aw (ab rst rst (0:Nat)).1) (aj (ab rst rst (0:Nat)).2.1 (ByteArray.mk #[47,47]).data.toList).1).hk) ((RS.mk (ab rst rst (0:Nat)).1 us pw hk hs hn hp port false pn pl hq q hf fg false (aw (ab rst rst (0:Nat)).1) (aj (ab rst rst (0:Nat)).2.1 (ByteArray.mk #[47,47]).data.toList).1).hs) ((RS.mk (ab rst rst (0:Nat)).1 us pw hk hs hn hp port false pn pl hq q hf fg false (aw (ab rst rst (0:Nat)).1) (aj (ab rst rst (0:Nat)).2.1 (ByteArray.mk #[47,47]).data.toList).1).hn) ((RS.mk (ab rst rst (0:Nat)).1 us pw hk hs hn hp port false pn pl hq q hf fg false (aw (ab rst rst (0:Nat)).1) (aj (ab rst rst (0:Nat)).2.1 (ByteArray.mk #[47,47]).data.toList).1).hp) ((RS.mk (ab rst rst (0:Nat)).1 us pw hk hs hn hp port false pn pl hq q hf fg false (aw (ab rst rst (0:Nat)).1) (aj (ab rst rst (0:Nat)).2.1 (ByteArray.mk #[47,47]).data.toList).1).port) ((RS.mk (ab rst rst (0:Nat)).1 us pw hk hs hn hp port false pn pl hq q hf fg false (aw (ab rst rst (0:Nat)).1) (aj (ab rst rst (0:Nat)).2.1 (ByteArray.mk #[47,47]).data.toList).1).opq) ((RS.mk (ab rst rst (0:Nat)).1 us pw hk hs hn hp port false pn pl hq q hf fg false (aw (ab rst rst (0:Nat)).1) (aj (ab rst rst (0:Nat)).2.1 (ByteArray.mk #[47,47]).data.toList).1).pn) ((RS.mk (ab rst rst (0:Nat)).1 us pw hk hs hn hp port false pn pl hq q hf fg false (aw (ab rst rst (0:Nat)).1) (aj (ab rst rst (0:Nat)).2.1 (ByteArray.mk #[47,47]).data.toList).1).pl) ((RS.mk (ab rst rst (0:Nat)).1 us pw hk hs hn hp port false pn pl hq q hf fg false (aw (ab rst rst (0:Nat)).1) (aj (ab rst rst (0:Nat)).2.1 (ByteArray.mk #[47,47]).data.toList).1).hq) ((RS.mk (ab rst rst (0:Nat)).1 us pw hk hs hn hp port false pn pl hq q hf fg false (aw (ab rst rst (0:Nat)).1) (aj (ab rst rst (0:Nat)).2.1 (ByteArray.mk #[47,47]).data.toList).1).q) ((RS.mk (ab rst rst (0:Nat)).1 us pw hk hs hn hp port false pn pl hq q hf fg false (aw (ab rst rst (0:Nat)).1) (aj (ab rst rst (0:Nat)).2.1 (ByteArray.mk #[47,47]).data.toList).1).hf) ((RS.mk (ab rst rst (0:Nat)).1 us pw hk hs hn hp port false pn pl hq q hf fg false (aw (ab rst rst (0:Nat)).1) (aj (ab rst rst (0:Nat)).2.1 (ByteArray.mk #[47,47]).data.toList).1).fg) ((RS.mk (ab rst rst (0:Nat)).1 us pw hk hs hn hp port false pn pl hq q hf fg false (aw (ab rst rst (0:Nat)).1) (aj (ab rst rst (0:Nat)).2.1 (ByteArray.mk #[47,47]).data.toList).1).bare) ((RS.mk (ab rst rst (0:Nat)).1 us pw hk hs hn hp port false pn pl hq q hf fg false (aw (ab rst rst (0:Nat)).1) (aj (ab rst rst (0:Nat)).2.1 (ByteArray.mk #[47,47]).data.toList).1).sp) ((RS.mk (ab rst rst (0:Nat)).1 us pw hk hs hn hp port false pn pl hq q hf fg false (aw (ab rst rst (0:Nat)).1) (aj (ab rst rst (0:Nat)).2.1 (ByteArray.mk #[47,47]).data.toList).1).rst))]∧
 ((RS.mk sc us pw hk hs hn hp port false pn pl hq q hf fg bare sp rst).aq=(RS.mk (ab rst rst (0:Nat)).1 us pw hk hs hn hp port false pn pl hq q hf fg false (aw (ab rst rst (0:Nat)).1) (aj (ab rst rst (0:Nat)).2.1 (ByteArray.mk #[47,47]).data.toList).1).b9∧
 List.length (RS.mk (ab rst rst (0:Nat)).1 us pw hk hs hn hp port false pn pl hq q hf fg false (aw (ab rst rst (0:Nat)).1) (aj (ab rst rst (0:Nat)).2.1 (ByteArray.mk #[47,47]).data.toList).1).rst≤(300000:Nat)∧
 (RS.mk (ab rst rst (0:Nat)).1 us pw hk hs hn hp port false pn pl hq q hf fg false (aw (ab rst rst (0:Nat)).1) (aj (ab rst rst (0:Nat)).2.1 (ByteArray.mk #[47,47]).data.toList).1).pl.length≤(100000:Nat))∧
 AG k sc us pw hk hs hn hp port pn pl hq q hf fg bare sp rst)∧
 ((aj (ab rst rst (0:Nat)).2.1 (ByteArray.mk #[47,47]).data.toList).2=false→
 True∧
 ((aj (aj (ab rst rst (0:Nat)).2.1 (ByteArray.mk #[47,47]).data.toList).1 (ByteArray.mk #[47]).data.toList).2=true→
 VS.mk [] [(0,PV.ptr (0:Nat) (0:Nat)),(2,PV.int .i64 (0:Int)),(3,PV.int .i64 (0:Int)),(6,PV.bool !decide ((0:Int)=(0:Int))),(10,PV.bool false),(16,PV.bool (decide ((ab rst rst (0:Nat)).1=(ByteArray.mk #[102,105,108,101]).data.toList))),(26,PV.undef),(28,PV.bool false),(51,PV.bool (aw (ab rst rst (0:Nat)).1)),(58,PV.bool (aj (ab rst rst (0:Nat)).2.1 (ByteArray.mk #[47,47]).data.toList).2),(61,PV.bool (aj (aj (ab rst rst (0:Nat)).2.1 (ByteArray.mk #[47,47]).data.toList).1 (ByteArray.mk #[47]).data.toList).2),(71,PV.undef),(77,PV.undef),(81,PV.undef),(87,PV.undef),(97,PV.undef)] [((0:Nat),bT (PV.raw (Go.Value.pointer none)) 1 ((ab rst rst (0:Nat)).1) us pw hk hs hn hp port false pn pl hq q hf fg false (aw (ab rst rst (0:Nat)).1) ((aj (aj (ab rst rst (0:Nat)).2.1 (ByteArray.mk #[47,47]).data.toList).1 (ByteArray.mk #[47]).data.toList).1))]=VS.mk [] [(0,PV.ptr (0:Nat) (0:Nat)),(2,PV.int .i64 (0:Int)),(3,PV.int .i64 (0:Int)),(6,PV.bool !decide ((0:Int)=(0:Int))),(10,PV.bool false),(16,PV.bool (decide ((ab rst rst (0:Nat)).1=(ByteArray.mk #[102,105,108,101]).data.toList))),(26,PV.undef),(28,PV.bool false),(51,PV.bool (aw (ab rst rst (0:Nat)).1)),(58,PV.bool (aj (ab rst rst (0:Nat)).2.1 (ByteArray.mk #[47,47]).data.toList).2),(61,PV.bool (aj (aj (ab rst rst (0:Nat)).2.1 (ByteArray.mk #[47,47]).data.toList).1 (ByteArray.mk #[47]).data.toList).2),(71,PV.undef),(77,PV.undef),(81,PV.undef),(87,PV.undef),(97,PV.undef)] [((0:Nat),bT (PV.raw (Go.Value.pointer none)) 1 ((RS.mk (ab rst rst (0:Nat)).1 us pw hk hs hn hp port false pn pl hq q hf fg false (aw (ab rst rst (0:Nat)).1) (aj (aj (ab rst rst (0:Nat)).2.1 (ByteArray.mk #[47,47]).data.toList).1 (ByteArray.mk #[47]).data.toList).1).sc) ((RS.mk (ab rst rst (0:Nat)).1 us pw hk hs hn hp port false pn pl hq q hf fg false (aw (ab rst rst (0:Nat)).1) (aj (aj (ab rst rst (0:Nat)).2.1 (ByteArray.mk #[47,47]).data.toList).1 (ByteArray.mk #[47]).data.toList).1).us) ((RS.mk (ab rst rst (0:Nat)).1 us pw hk hs hn hp port false pn pl hq q hf fg false (aw (ab rst rst (0:Nat)).1) (aj (aj (ab rst rst (0:Nat)).2.1 (ByteArray.mk #[47,47]).data.toList).1 (ByteArray.mk #[47]).data.toList).1).pw) ((RS.mk (ab rst rst (0:Nat)).1 us pw hk hs hn hp port false pn pl hq q hf fg false (aw (ab rst rst (0:Nat)).1) (aj (aj (ab rst rst (0:Nat)).2.1 (ByteArray.mk #[47,47]).data.toList).1 (ByteArray.mk #[47]).data.toList).1).hk) ((RS.mk (ab rst rst (0:Nat)).1 us pw hk hs hn hp port false pn pl hq q hf fg false (aw (ab rst rst (0:Nat)).1) (aj (aj (ab rst rst (0:Nat)).2.1 (ByteArray.mk #[47,47]).data.toList).1 (ByteArray.mk #[47]).data.toList).1).hs) ((RS.mk (ab rst rst (0:Nat)).1 us pw hk hs hn hp port false pn pl hq q hf fg false (aw (ab rst rst (0:Nat)).1) (aj (aj (ab rst rst (0:Nat)).2.1 (ByteArray.mk #[47,47]).data.toList).1 (ByteArray.mk #[47]).data.toList).1).hn) ((RS.mk (ab rst rst (0:Nat)).1 us pw hk hs hn hp port false pn pl hq q hf fg false (aw (ab rst rst (0:Nat)).1) (aj (aj (ab rst rst (0:Nat)).2.1 (ByteArray.mk #[47,47]).data.toList).1 (ByteArray.mk #[47]).data.toList).1).hp) ((RS.mk (ab rst rst (0:Nat)).1 us pw hk hs hn hp port false pn pl hq q hf fg false (aw (ab rst rst (0:Nat)).1) (aj (aj (ab rst rst (0:Nat)).2.1 (ByteArray.mk #[47,47]).data.toList).1 (ByteArray.mk #[47]).data.toList).1).port) ((RS.mk (ab rst rst (0:Nat)).1 us pw hk hs hn hp port false pn pl hq q hf fg false (aw (ab rst rst (0:Nat)).1) (aj (aj (ab rst rst (0:Nat)).2.1 (ByteArray.mk #[47,47]).data.toList).1 (ByteArray.mk #[47]).data.toList).1).opq) ((RS.mk (ab rst rst (0:Nat)).1 us pw hk hs hn hp port false pn pl hq q hf fg false (aw (ab rst rst (0:Nat)).1) (aj (aj (ab rst rst (0:Nat)).2.1 (ByteArray.mk #[47,47]).data.toList).1 (ByteArray.mk #[47]).data.toList).1).pn) ((RS.mk (ab rst rst (0:Nat)).1 us pw hk hs hn hp port false pn pl hq q hf fg false (aw (ab rst rst (0:Nat)).1) (aj (aj (ab rst rst (0:Nat)).2.1 (ByteArray.mk #[47,47]).data.toList).1 (ByteArray.mk #[47]).data.toList).1).pl) ((RS.mk (ab rst rst (0:Nat)).1 us pw hk hs hn hp port false pn pl hq q hf fg false (aw (ab rst rst (0:Nat)).1) (aj (aj (ab rst rst (0:Nat)).2.1 (ByteArray.mk #[47,47]).data.toList).1 (ByteArray.mk #[47]).data.toList).1).hq) ((RS.mk (ab rst rst (0:Nat)).1 us pw hk hs hn hp port false pn pl hq q hf fg false (aw (ab rst rst (0:Nat)).1) (aj (aj (ab rst rst (0:Nat)).2.1 (ByteArray.mk #[47,47]).data.toList).1 (ByteArray.mk #[47]).data.toList).1).q) ((RS.mk (ab rst rst (0:Nat)).1 us pw hk hs hn hp port false pn pl hq q hf fg false (aw (ab rst rst (0:Nat)).1) (aj (aj (ab rst rst (0:Nat)).2.1 (ByteArray.mk #[47,47]).data.toList).1 (ByteArray.mk #[47]).data.toList).1).hf) ((RS.mk (ab rst rst (0:Nat)).1 us pw hk hs hn hp port false pn pl hq q hf fg false (aw (ab rst rst (0:Nat)).1) (aj (aj (ab rst rst (0:Nat)).2.1 (ByteArray.mk #[47,47]).data.toList).1 (ByteArray.mk #[47]).data.toList).1).fg) ((RS.mk (ab rst rst (0:Nat)).1 us pw hk hs hn hp port false pn pl hq q hf fg false (aw (ab rst rst (0:Nat)).1) (aj (aj (ab rst rst (0:Nat)).2.1 (ByteArray.mk #[47,47]).data.toList).1 (ByteArray.mk #[47]).data.toList).1).bare) ((RS.mk (ab rst rst (0:Nat)).1 us pw hk hs hn hp port false pn pl hq q hf fg false (aw (ab rst rst (0:Nat)).1) (aj (aj (ab rst rst (0:Nat)).2.1 (ByteArray.mk #[47,47]).data.toList).1 (ByteArray.mk #[47]).data.toList).1).sp) ((RS.mk (ab rst rst (0:Nat)).1 us pw hk hs hn hp port false pn pl hq q hf fg false (aw (ab rst rst (0:Nat)).1) (aj (aj (ab rst rst (0:Nat)).2.1 (ByteArray.mk #[47,47]).data.toList).1 (ByteArray.mk #[47]).data.toList).1).rst))]∧
 ((RS.mk sc us pw hk hs hn hp port false pn pl hq q hf fg bare sp rst).aq=((RS.mk (ab rst rst (0:Nat)).1 us pw hk hs hn hp port false pn pl hq q hf fg false (aw (ab rst rst (0:Nat)).1) (aj (aj (ab rst rst (0:Nat)).2.1 (ByteArray.mk #[47,47]).data.toList).1 (ByteArray.mk #[47]).data.toList).1).path.tail,(0:Int))∧
 List.length (RS.mk (ab rst rst (0:Nat)).1 us pw hk hs hn hp port false pn pl hq q hf fg false (aw (ab rst rst (0:Nat)).1) (aj (aj (ab rst rst (0:Nat)).2.1 (ByteArray.mk #[47,47]).data.toList).1 (ByteArray.mk #[47]).data.toList).1).rst≤(300000:Nat)∧
 (RS.mk (ab rst rst (0:Nat)).1 us pw hk hs hn hp port false pn pl hq q hf fg false (aw (ab rst rst (0:Nat)).1) (aj (aj (ab rst rst (0:Nat)).2.1 (ByteArray.mk #[47,47]).data.toList).1 (ByteArray.mk #[47]).data.toList).1).pl.length≤(100000:Nat))∧
 IY k sc us pw hk hs hn hp port pn pl hq q hf fg bare sp rst)∧
 ((aj (aj (ab rst rst (0:Nat)).2.1 (ByteArray.mk #[47,47]).data.toList).1 (ByteArray.mk #[47]).data.toList).2=false→
 (List.length (aj (aj (ab rst rst (0:Nat)).2.1 (ByteArray.mk #[47,47]).data.toList).1 (ByteArray.mk #[47]).data.toList).1).le (300000:Nat)∧
 (aa (aj (aj (ab rst rst (0:Nat)).2.1 (ByteArray.mk #[47,47]).data.toList).1 (ByteArray.mk #[47]).data.toList).1 ↑(aE (aj (aj (ab rst rst (0:Nat)).2.1 (ByteArray.mk #[47,47]).data.toList).1 (ByteArray.mk #[47]).data.toList).1)).length.le (300000:Nat)∧
 (List.length (bG (aa (aj (aj (ab rst rst (0:Nat)).2.1 (ByteArray.mk #[47,47]).data.toList).1 (ByteArray.mk #[47]).data.toList).1 ↑(aE (aj (aj (ab rst rst (0:Nat)).2.1 (ByteArray.mk #[47,47]).data.toList).1 (ByteArray.mk #[47]).data.toList).1)))).le (300000:Nat)∧
 k (PV.int .i64 (0:Int)) [bT (PV.raw (Go.Value.pointer none)) 0 ((ab rst rst (0:Nat)).1) us pw hk hs hn hp port true false ([nI (ae (aj (aj (ab rst rst (0:Nat)).2.1 (ByteArray.mk #[47,47]).data.toList).1 (ByteArray.mk #[47]).data.toList).1 ↑(aE (aj (aj (ab rst rst (0:Nat)).2.1 (ByteArray.mk #[47,47]).data.toList).1 (ByteArray.mk #[47]).data.toList).1)) (aa (aj (aj (ab rst rst (0:Nat)).2.1 (ByteArray.mk #[47,47]).data.toList).1 (ByteArray.mk #[47]).data.toList).1 ↑(aE (aj (aj (ab rst rst (0:Nat)).2.1 (ByteArray.mk #[47,47]).data.toList).1 (ByteArray.mk #[47]).data.toList).1))]) (dX (aa (aj (aj (ab rst rst (0:Nat)).2.1 (ByteArray.mk #[47,47]).data.toList).1 (ByteArray.mk #[47]).data.toList).1 ↑(aE (aj (aj (ab rst rst (0:Nat)).2.1 (ByteArray.mk #[47,47]).data.toList).1 (ByteArray.mk #[47]).data.toList).1)) hq) (dY (aw (ab rst rst (0:Nat)).1) (aa (aj (aj (ab rst rst (0:Nat)).2.1 (ByteArray.mk #[47,47]).data.toList).1 (ByteArray.mk #[47]).data.toList).1 ↑(aE (aj (aj (ab rst rst (0:Nat)).2.1 (ByteArray.mk #[47,47]).data.toList).1 (ByteArray.mk #[47]).data.toList).1)) q) (dZ (bG (aa (aj (aj (ab rst rst (0:Nat)).2.1 (ByteArray.mk #[47,47]).data.toList).1 (ByteArray.mk #[47]).data.toList).1 ↑(aE (aj (aj (ab rst rst (0:Nat)).2.1 (ByteArray.mk #[47,47]).data.toList).1 (ByteArray.mk #[47]).data.toList).1))) hf) (ee (bG (aa (aj (aj (ab rst rst (0:Nat)).2.1 (ByteArray.mk #[47,47]).data.toList).1 (ByteArray.mk #[47]).data.toList).1 ↑(aE (aj (aj (ab rst rst (0:Nat)).2.1 (ByteArray.mk #[47,47]).data.toList).1 (ByteArray.mk #[47]).data.toList).1))) fg) false (aw (ab rst rst (0:Nat)).1) (eh (bG (aa (aj (aj (ab rst rst (0:Nat)).2.1 (ByteArray.mk #[47,47]).data.toList).1 (ByteArray.mk #[47]).data.toList).1 ↑(aE (aj (aj (ab rst rst (0:Nat)).2.1 (ByteArray.mk #[47,47]).data.toList).1 (ByteArray.mk #[47]).data.toList).1))))]))))))∧
 (false=!false→
 ((!false)=false→
 false=true→
 True)∧
 (true=true→
 VS.mk [] [(0,PV.ptr (0:Nat) (0:Nat)),(2,PV.int .i64 (0:Int)),(3,PV.int .i64 (0:Int)),(6,PV.bool !decide ((0:Int)=(0:Int))),(10,PV.bool false),(16,PV.bool (decide ((ab rst rst (0:Nat)).1=(ByteArray.mk #[102,105,108,101]).data.toList))),(26,PV.undef),(28,PV.bool true),(51,PV.undef),(58,PV.undef),(61,PV.undef),(71,PV.undef),(77,PV.undef),(81,PV.undef),(87,PV.undef),(97,PV.undef)] [((0:Nat),bT (PV.raw (Go.Value.pointer none)) 1 ((ab rst rst (0:Nat)).1) us pw hk hs hn hp port false pn pl hq q hf fg false (aw (ab rst rst (0:Nat)).1) ((ab rst rst (0:Nat)).2.1))]=VS.mk [] [] []∧
 False∧
 ∀(x:RS),False→
 False)∧
 (true=false→
 (aw (ab rst rst (0:Nat)).1=true→
 (List.length (ab rst rst (0:Nat)).2.1).le (300000:Nat)∧
 VS.mk [] [(0,PV.ptr (0:Nat) (0:Nat)),(2,PV.int .i64 (0:Int)),(3,PV.int .i64 (0:Int)),(6,PV.bool !decide ((0:Int)=(0:Int))),(10,PV.bool false),(16,PV.bool (decide ((ab rst rst (0:Nat)).1=(ByteArray.mk #[102,105,108,101]).data.toList))),(26,PV.undef),(28,PV.bool true),(51,PV.bool (aw (ab rst rst (0:Nat)).1)),(58,PV.undef),(61,PV.undef),(71,PV.undef),(77,PV.undef),(81,PV.undef),(87,PV.undef),(97,PV.undef)] [((0:Nat),bT (PV.raw (Go.Value.pointer none)) 1 ((ab rst rst (0:Nat)).1) us pw hk hs hn hp port false pn pl hq q hf fg false (aw (ab rst rst (0:Nat)).1) (aB (List.length (ab rst rst (0:Nat)).2.1) (aw (ab rst rst (0:Nat)).1) (0:Int) (ab rst rst (0:Nat)).2.1))]=VS.mk [] [(0,PV.ptr (0:Nat) (0:Nat)),(2,PV.int .i64 (0:Int)),(3,PV.int .i64 (0:Int)),(6,PV.bool !decide ((0:Int)=(0:Int))),(10,PV.bool false),(16,PV.bool (decide ((ab rst rst (0:Nat)).1=(ByteArray.mk #[102,105,108,101]).data.toList))),(26,PV.undef),(28,PV.bool true),(51,PV.bool (aw (ab rst rst (0:Nat)).1)),(58,PV.undef),(61,PV.undef),(71,PV.undef),(77,PV.undef),(81,PV.undef),(87,PV.undef),(97,PV.undef)] [((0:Nat),bT (PV.raw (Go.Value.pointer none)) 1 ((RS.mk (ab rst rst (0:Nat)).1 us pw hk hs hn hp port false pn pl hq q hf fg false (aw (ab rst rst (0:Nat)).1) (aB (List.length (ab rst rst (0:Nat)).2.1) (aw (ab rst rst (0:Nat)).1) (0:Int) (ab rst rst (0:Nat)).2.1)).sc) ((RS.mk (ab rst rst (0:Nat)).1 us pw hk hs hn hp port false pn pl hq q hf fg false (aw (ab rst rst (0:Nat)).1) (aB (List.length (ab rst rst (0:Nat)).2.1) (aw (ab rst rst (0:Nat)).1) (0:Int) (ab rst rst (0:Nat)).2.1)).us) ((RS.mk (ab rst rst (0:Nat)).1 us pw hk hs hn hp port false pn pl hq q hf fg false (aw (ab rst rst (0:Nat)).1) (aB (List.length (ab rst rst (0:Nat)).2.1) (aw (ab rst rst (0:Nat)).1) (0:Int) (ab rst rst (0:Nat)).2.1)).pw) ((RS.mk (ab rst rst (0:Nat)).1 us pw hk hs hn hp port false pn pl hq q hf fg false (aw (ab rst rst (0:Nat)).1) (aB (List.length (ab rst rst (0:Nat)).2.1) (aw (ab rst rst (0:Nat)).1) (0:Int) (ab rst rst (0:Nat)).2.1)).hk) ((RS.mk (ab rst rst (0:Nat)).1 us pw hk hs hn hp port false pn pl hq q hf fg false (aw (ab rst rst (0:Nat)).1) (aB (List.length (ab rst rst (0:Nat)).2.1) (aw (ab rst rst (0:Nat)).1) (0:Int) (ab rst rst (0:Nat)).2.1)).hs) ((RS.mk (ab rst rst (0:Nat)).1 us pw hk hs hn hp port false pn pl hq q hf fg false (aw (ab rst rst (0:Nat)).1) (aB (List.length (ab rst rst (0:Nat)).2.1) (aw (ab rst rst (0:Nat)).1) (0:Int) (ab rst rst (0:Nat)).2.1)).hn) ((RS.mk (ab rst rst (0:Nat)).1 us pw hk hs hn hp port false pn pl hq q hf fg false (aw (ab rst rst (0:Nat)).1) (aB (List.length (ab rst rst (0:Nat)).2.1) (aw (ab rst rst (0:Nat)).1) (0:Int) (ab rst rst (0:Nat)).2.1)).hp) ((RS.mk (ab rst rst (0:Nat)).1 us pw hk hs hn hp port false pn pl hq q hf fg false (aw (ab rst rst (0:Nat)).1) (aB (List.length (ab rst rst (0:Nat)).2.1) (aw (ab rst rst (0:Nat)).1) (0:Int) (ab rst rst (0:Nat)).2.1)).port) ((RS.mk (ab rst rst (0:Nat)).1 us pw hk hs hn hp port false pn pl hq q hf fg false (aw (ab rst rst (0:Nat)).1) (aB (List.length (ab rst rst (0:Nat)).2.1) (aw (ab rst rst (0:Nat)).1) (0:Int) (ab rst rst (0:Nat)).2.1)).opq) ((RS.mk (ab rst rst (0:Nat)).1 us pw hk hs hn hp port false pn pl hq q hf fg false (aw (ab rst rst (0:Nat)).1) (aB (List.length (ab rst rst (0:Nat)).2.1) (aw (ab rst rst (0:Nat)).1) (0:Int) (ab rst rst (0:Nat)).2.1)).pn) ((RS.mk (ab rst rst (0:Nat)).1 us pw hk hs hn hp port false pn pl hq q hf fg false (aw (ab rst rst (0:Nat)).1) (aB (List.length (ab rst rst (0:Nat)).2.1) (aw (ab rst rst (0:Nat)).1) (0:Int) (ab rst rst (0:Nat)).2.1)).pl) ((RS.mk (ab rst rst (0:Nat)).1 us pw hk hs hn hp port false pn pl hq q hf fg false (aw (ab rst rst (0:Nat)).1) (aB (List.length (ab rst rst (0:Nat)).2.1) (aw (ab rst rst (0:Nat)).1) (0:Int) (ab rst rst (0:Nat)).2.1)).hq) ((RS.mk (ab rst rst (0:Nat)).1 us pw hk hs hn hp port false pn pl hq q hf fg false (aw (ab rst rst (0:Nat)).1) (aB (List.length (ab rst rst (0:Nat)).2.1) (aw (ab rst rst (0:Nat)).1) (0:Int) (ab rst rst (0:Nat)).2.1)).q) ((RS.mk (ab rst rst (0:Nat)).1 us pw hk hs hn hp port false pn pl hq q hf fg false (aw (ab rst rst (0:Nat)).1) (aB (List.length (ab rst rst (0:Nat)).2.1) (aw (ab rst rst (0:Nat)).1) (0:Int) (ab rst rst (0:Nat)).2.1)).hf) ((RS.mk (ab rst rst (0:Nat)).1 us pw hk hs hn hp port false pn pl hq q hf fg false (aw (ab rst rst (0:Nat)).1) (aB (List.length (ab rst rst (0:Nat)).2.1) (aw (ab rst rst (0:Nat)).1) (0:Int) (ab rst rst (0:Nat)).2.1)).fg) ((RS.mk (ab rst rst (0:Nat)).1 us pw hk hs hn hp port false pn pl hq q hf fg false (aw (ab rst rst (0:Nat)).1) (aB (List.length (ab rst rst (0:Nat)).2.1) (aw (ab rst rst (0:Nat)).1) (0:Int) (ab rst rst (0:Nat)).2.1)).bare) ((RS.mk (ab rst rst (0:Nat)).1 us pw hk hs hn hp port false pn pl hq q hf fg false (aw (ab rst rst (0:Nat)).1) (aB (List.length (ab rst rst (0:Nat)).2.1) (aw (ab rst rst (0:Nat)).1) (0:Int) (ab rst rst (0:Nat)).2.1)).sp) ((RS.mk (ab rst rst (0:Nat)).1 us pw hk hs hn hp port false pn pl hq q hf fg false (aw (ab rst rst (0:Nat)).1) (aB (List.length (ab rst rst (0:Nat)).2.1) (aw (ab rst rst (0:Nat)).1) (0:Int) (ab rst rst (0:Nat)).2.1)).rst))]∧
 ((RS.mk sc us pw hk hs hn hp port false pn pl hq q hf fg bare sp rst).aq=(RS.mk (ab rst rst (0:Nat)).1 us pw hk hs hn hp port false pn pl hq q hf fg false (aw (ab rst rst (0:Nat)).1) (aB (List.length (ab rst rst (0:Nat)).2.1) (aw (ab rst rst (0:Nat)).1) (0:Int) (ab rst rst (0:Nat)).2.1)).b9∧
 List.length (RS.mk (ab rst rst (0:Nat)).1 us pw hk hs hn hp port false pn pl hq q hf fg false (aw (ab rst rst (0:Nat)).1) (aB (List.length (ab rst rst (0:Nat)).2.1) (aw (ab rst rst (0:Nat)).1) (0:Int) (ab rst rst (0:Nat)).2.1)).rst≤(300000:Nat)∧
 (RS.mk (ab rst rst (0:Nat)).1 us pw hk hs hn hp port false pn pl hq q hf fg false (aw (ab rst rst (0:Nat)).1) (aB (List.length (ab rst rst (0:Nat)).2.1) (aw (ab rst rst (0:Nat)).1) (0:Int) (ab rst rst (0:Nat)).2.1)).pl.length≤(100000:Nat))∧
 AG k sc us pw hk hs hn hp port pn pl hq q hf fg bare sp rst)∧
 (aw (ab rst rst (0:Nat)).1=false→
 True∧
 ((aj (ab rst rst (0:Nat)).2.1 (ByteArray.mk #[47,47]).data.toList).2=true→
 VS.mk [] [(0,PV.ptr (0:Nat) (0:Nat)),(2,PV.int .i64 (0:Int)),(3,PV.int .i64 (0:Int)),(6,PV.bool !decide ((0:Int)=(0:Int))),(10,PV.bool false),(16,PV.bool (decide ((ab rst rst (0:Nat)).1=(ByteArray.mk #[102,105,108,101]).data.toList))),(26,PV.undef),(28,PV.bool true),(51,PV.bool (aw (ab rst rst (0:Nat)).1)),(58,PV.bool (aj (ab rst rst (0:Nat)).2.1 (ByteArray.mk #[47,47]).data.toList).2),(61,PV.undef),(71,PV.undef),(77,PV.undef),(81,PV.undef),(87,PV.undef),(97,PV.undef)] [((0:Nat),bT (PV.raw (Go.Value.pointer none)) 1 ((ab rst rst (0:Nat)).1) us pw hk hs hn hp port false pn pl hq q hf fg false (aw (ab rst rst (0:Nat)).1) ((aj (ab rst rst (0:Nat)).2.1 (ByteArray.mk #[47,47]).data.toList).1))]=VS.mk [] [(0,PV.ptr (0:Nat) (0:Nat)),(2,PV.int .i64 (0:Int)),(3,PV.int .i64 (0:Int)),(6,PV.bool !decide ((0:Int)=(0:Int))),(10,PV.bool false),(16,PV.bool (decide ((ab rst rst (0:Nat)).1=(ByteArray.mk #[102,105,108,101]).data.toList))),(26,PV.undef),(28,PV.bool true),(51,PV.bool (aw (ab rst rst (0:Nat)).1)),(58,PV.bool (aj (ab rst rst (0:Nat)).2.1 (ByteArray.mk #[47,47]).data.toList).2),(61,PV.undef),(71,PV.undef),(77,PV.undef),(81,PV.undef),(87,PV.undef),(97,PV.undef)] [((0:Nat),bT (PV.raw (Go.Value.pointer none)) 1 ((RS.mk (ab rst rst (0:Nat)).1 us pw hk hs hn hp port false pn pl hq q hf fg false (aw (ab rst rst (0:Nat)).1) (aj (ab rst rst (0:Nat)).2.1 (ByteArray.mk #[47,47]).data.toList).1).sc) ((RS.mk (ab rst rst (0:Nat)).1 us pw hk hs hn hp port false pn pl hq q hf fg false (aw (ab rst rst (0:Nat)).1) (aj (ab rst rst (0:Nat)).2.1 (ByteArray.mk #[47,47]).data.toList).1).us) ((RS.mk (ab rst rst (0:Nat)).1 us pw hk hs hn hp port false pn pl hq q hf fg false (aw (ab rst rst (0:Nat)).1) (aj (ab rst rst (0:Nat)).2.1 (ByteArray.mk #[47,47]).data.toList).1).pw) ((RS.mk (ab rst rst (0:Nat)).1 us pw hk hs hn hp port false pn pl hq q hf fg false (aw (ab rst rst (0:Nat)).1) (aj (ab rst rst (0:Nat)).2.1 (ByteArray.mk #[47,47]).data.toList).1).hk) ((RS.mk (ab rst rst (0:Nat)).1 us pw hk hs hn hp port false pn pl hq q hf fg false (aw (ab rst rst (0:Nat)).1) (aj (ab rst rst (0:Nat)).2.1 (ByteArray.mk #[47,47]).data.toList).1).hs) ((RS.mk (ab rst rst (0:Nat)).1 us pw hk hs hn hp port false pn pl hq q hf fg false (aw (ab rst rst (0:Nat)).1) (aj (ab rst rst (0:Nat)).2.1 (ByteArray.mk #[47,47]).data.toList).1).hn) ((RS.mk (ab rst rst (0:Nat)).1 us pw hk hs hn hp port false pn pl hq q hf fg false (aw (ab rst rst (0:Nat)).1) (aj (ab rst rst (0:Nat)).2.1 (ByteArray.mk #[47,47]).data.toList).1).hp) ((RS.mk (ab rst rst (0:Nat)).1 us pw hk hs hn hp port false pn pl hq q hf fg false (aw (ab rst rst (0:Nat)).1) (aj (ab rst rst (0:Nat)).2.1 (ByteArray.mk #[47,47]).data.toList).1).port) ((RS.mk (ab rst rst (0:Nat)).1 us pw hk hs hn hp port false pn pl hq q hf fg false (aw (ab rst rst (0:Nat)).1) (aj (ab rst rst (0:Nat)).2.1 (ByteArray.mk #[47,47]).data.toList).1).opq) ((RS.mk (ab rst rst (0:Nat)).1 us pw hk hs hn hp port false pn pl hq q hf fg false (aw (ab rst rst (0:Nat)).1) (aj (ab rst rst (0:Nat)).2.1 (ByteArray.mk #[47,47]).data.toList).1).pn) ((RS.mk (ab rst rst (0:Nat)).1 us pw hk hs hn hp port false pn pl hq q hf fg false (aw (ab rst rst (0:Nat)).1) (aj (ab rst rst (0:Nat)).2.1 (ByteArray.mk #[47,47]).data.toList).1).pl) ((RS.mk (ab rst rst (0:Nat)).1 us pw hk hs hn hp port false pn pl hq q hf fg false (aw (ab rst rst (0:Nat)).1) (aj (ab rst rst (0:Nat)).2.1 (ByteArray.mk #[47,47]).data.toList).1).hq) ((RS.mk (ab rst rst (0:Nat)).1 us pw hk hs hn hp port false pn pl hq q hf fg false (aw (ab rst rst (0:Nat)).1) (aj (ab rst rst (0:Nat)).2.1 (ByteArray.mk #[47,47]).data.toList).1).q) ((RS.mk (ab rst rst (0:Nat)).1 us pw hk hs hn hp port false pn pl hq q hf fg false (aw (ab rst rst (0:Nat)).1) (aj (ab rst rst (0:Nat)).2.1 (ByteArray.mk #[47,47]).data.toList).1).hf) ((RS.mk (ab rst rst (0:Nat)).1 us pw hk hs hn hp port false pn pl hq q hf fg false (aw (ab rst rst (0:Nat)).1) (aj (ab rst rst (0:Nat)).2.1 (ByteArray.mk #[47,47]).data.toList).1).fg) ((RS.mk (ab rst rst (0:Nat)).1 us pw hk hs hn hp port false pn pl hq q hf fg false (aw (ab rst rst (0:Nat)).1) (aj (ab rst rst (0:Nat)).2.1 (ByteArray.mk #[47,47]).data.toList).1).bare) ((RS.mk (ab rst rst (0:Nat)).1 us pw hk hs hn hp port false pn pl hq q hf fg false (aw (ab rst rst (0:Nat)).1) (aj (ab rst rst (0:Nat)).2.1 (ByteArray.mk #[47,47]).data.toList).1).sp) ((RS.mk (ab rst rst (0:Nat)).1 us pw hk hs hn hp port false pn pl hq q hf fg false (aw (ab rst rst (0:Nat)).1) (aj (ab rst rst (0:Nat)).2.1 (ByteArray.mk #[47,47]).data.toList).1).rst))]∧
 ((RS.mk sc us pw hk hs hn hp port false pn pl hq q hf fg bare sp rst).aq=(RS.mk (ab rst rst (0:Nat)).1 us pw hk hs hn hp port false pn pl hq q hf fg false (aw (ab rst rst (0:Nat)).1) (aj (ab rst rst (0:Nat)).2.1 (ByteArray.mk #[47,47]).data.toList).1).b9∧
 List.length (RS.mk (ab rst rst (0:Nat)).1 us pw hk hs hn hp port false pn pl hq q hf fg false (aw (ab rst rst (0:Nat)).1) (aj (ab rst rst (0:Nat)).2.1 (ByteArray.mk #[47,47]).data.toList).1).rst≤(300000:Nat)∧
 (RS.mk (ab rst rst (0:Nat)).1 us pw hk hs hn hp port false pn pl hq q hf fg false (aw (ab rst rst (0:Nat)).1) (aj (ab rst rst (0:Nat)).2.1 (ByteArray.mk #[47,47]).data.toList).1).pl.length≤(100000:Nat))∧
 AG k sc us pw hk hs hn hp port pn pl hq q hf fg bare sp rst)∧
 ((aj (ab rst rst (0:Nat)).2.1 (ByteArray.mk #[47,47]).data.toList).2=false→
 True∧
 ((aj (aj (ab rst rst (0:Nat)).2.1 (ByteArray.mk #[47,47]).data.toList).1 (ByteArray.mk #[47]).data.toList).2=true→
 VS.mk [] [(0,PV.ptr (0:Nat) (0:Nat)),(2,PV.int .i64 (0:Int)),(3,PV.int .i64 (0:Int)),(6,PV.bool !decide ((0:Int)=(0:Int))),(10,PV.bool false),(16,PV.bool (decide ((ab rst rst (0:Nat)).1=(ByteArray.mk #[102,105,108,101]).data.toList))),(26,PV.undef),(28,PV.bool true),(51,PV.bool (aw (ab rst rst (0:Nat)).1)),(58,PV.bool (aj (ab rst rst (0:Nat)).2.1 (ByteArray.mk #[47,47]).data.toList).2),(61,PV.bool (aj (aj (ab rst rst (0:Nat)).2.1 (ByteArray.mk #[47,47]).data.toList).1 (ByteArray.mk #[47]).data.toList).2),(71,PV.undef),(77,PV.undef),(81,PV.undef),(87,PV.undef),(97,PV.undef)] [((0:Nat),bT (PV.raw (Go.Value.pointer none)) 1 ((ab rst rst (0:Nat)).1) us pw hk hs hn hp port false pn pl hq q hf fg false (aw (ab rst rst (0:Nat)).1) ((aj (aj (ab rst rst (0:Nat)).2.1 (ByteArray.mk #[47,47]).data.toList).1 (ByteArray.mk #[47]).data.toList).1))]=VS.mk [] [(0,PV.ptr (0:Nat) (0:Nat)),(2,PV.int .i64 (0:Int)),(3,PV.int .i64 (0:Int)),(6,PV.bool !decide ((0:Int)=(0:Int))),(10,PV.bool false),(16,PV.bool (decide ((ab rst rst (0:Nat)).1=(ByteArray.mk #[102,105,108,101]).data.toList))),(26,PV.undef),(28,PV.bool true),(51,PV.bool (aw (ab rst rst (0:Nat)).1)),(58,PV.bool (aj (ab rst rst (0:Nat)).2.1 (ByteArray.mk #[47,47]).data.toList).2),(61,PV.bool (aj (aj (ab rst rst (0:Nat)).2.1 (ByteArray.mk #[47,47]).data.toList).1 (ByteArray.mk #[47]).data.toList).2),(71,PV.undef),(77,PV.undef),(81,PV.undef),(87,PV.undef),(97,PV.undef)] [((0:Nat),bT (PV.raw (Go.Value.pointer none)) 1 ((RS.mk (ab rst rst (0:Nat)).1 us pw hk hs hn hp port false pn pl hq q hf fg false (aw (ab rst rst (0:Nat)).1) (aj (aj (ab rst rst (0:Nat)).2.1 (ByteArray.mk #[47,47]).data.toList).1 (ByteArray.mk #[47]).data.toList).1).sc) ((RS.mk (ab rst rst (0:Nat)).1 us pw hk hs hn hp port false pn pl hq q hf fg false (aw (ab rst rst (0:Nat)).1) (aj (aj (ab rst rst (0:Nat)).2.1 (ByteArray.mk #[47,47]).data.toList).1 (ByteArray.mk #[47]).data.toList).1).us) ((RS.mk (ab rst rst (0:Nat)).1 us pw hk hs hn hp port false pn pl hq q hf fg false (aw (ab rst rst (0:Nat)).1) (aj (aj (ab rst rst (0:Nat)).2.1 (ByteArray.mk #[47,47]).data.toList).1 (ByteArray.mk #[47]).data.toList).1).pw) ((RS.mk (ab rst rst (0:Nat)).1 us pw hk hs hn hp port false pn pl hq q hf fg false (aw (ab rst rst (0:Nat)).1) (aj (aj (ab rst rst (0:Nat)).2.1 (ByteArray.mk #[47,47]).data.toList).1 (ByteArray.mk #[47]).data.toList).1).hk) ((RS.mk (ab rst rst (0:Nat)).1 us pw hk hs hn hp port false pn pl hq q hf fg false (aw (ab rst rst (0:Nat)).1) (aj (aj (ab rst rst (0:Nat)).2.1 (ByteArray.mk #[47,47]).data.toList).1 (ByteArray.mk #[47]).data.toList).1).hs) ((RS.mk (ab rst rst (0:Nat)).1 us pw hk hs hn hp port false pn pl hq q hf fg false (aw (ab rst rst (0:Nat)).1) (aj (aj (ab rst rst (0:Nat)).2.1 (ByteArray.mk #[47,47]).data.toList).1 (ByteArray.mk #[47]).data.toList).1).hn) ((RS.mk (ab rst rst (0:Nat)).1 us pw hk hs hn hp port false pn pl hq q hf fg false (aw (ab rst rst (0:Nat)).1) (aj (aj (ab rst rst (0:Nat)).2.1 (ByteArray.mk #[47,47]).data.toList).1 (ByteArray.mk #[47]).data.toList).1).hp) ((RS.mk (ab rst rst (0:Nat)).1 us pw hk hs hn hp port false pn pl hq q hf fg false (aw (ab rst rst (0:Nat)).1) (aj (aj (ab rst rst (0:Nat)).2.1 (ByteArray.mk #[47,47]).data.toList).1 (ByteArray.mk #[47]).data.toList).1).port) ((RS.mk (ab rst rst (0:Nat)).1 us pw hk hs hn hp port false pn pl hq q hf fg false (aw (ab rst rst (0:Nat)).1) (aj (aj (ab rst rst (0:Nat)).2.1 (ByteArray.mk #[47,47]).data.toList).1 (ByteArray.mk #[47]).data.toList).1).opq) ((RS.mk (ab rst rst (0:Nat)).1 us pw hk hs hn hp port false pn pl hq q hf fg false (aw (ab rst rst (0:Nat)).1) (aj (aj (ab rst rst (0:Nat)).2.1 (ByteArray.mk #[47,47]).data.toList).1 (ByteArray.mk #[47]).data.toList).1).pn) ((RS.mk (ab rst rst (0:Nat)).1 us pw hk hs hn hp port false pn pl hq q hf fg false (aw (ab rst rst (0:Nat)).1) (aj (aj (ab rst rst (0:Nat)).2.1 (ByteArray.mk #[47,47]).data.toList).1 (ByteArray.mk #[47]).data.toList).1).pl) ((RS.mk (ab rst rst (0:Nat)).1 us pw hk hs hn hp port false pn pl hq q hf fg false (aw (ab rst rst (0:Nat)).1) (aj (aj (ab rst rst (0:Nat)).2.1 (ByteArray.mk #[47,47]).data.toList).1 (ByteArray.mk #[47]).data.toList).1).hq) ((RS.mk (ab rst rst (0:Nat)).1 us pw hk hs hn hp port false pn pl hq q hf fg false (aw (ab rst rst (0:Nat)).1) (aj (aj (ab rst rst (0:Nat)).2.1 (ByteArray.mk #[47,47]).data.toList).1 (ByteArray.mk #[47]).data.toList).1).q) ((RS.mk (ab rst rst (0:Nat)).1 us pw hk hs hn hp port false pn pl hq q hf fg false (aw (ab rst rst (0:Nat)).1) (aj (aj (ab rst rst (0:Nat)).2.1 (ByteArray.mk #[47,47]).data.toList).1 (ByteArray.mk #[47]).data.toList).1).hf) ((RS.mk (ab rst rst (0:Nat)).1 us pw hk hs hn hp port false pn pl hq q hf fg false (aw (ab rst rst (0:Nat)).1) (aj (aj (ab rst rst (0:Nat)).2.1 (ByteArray.mk #[47,47]).data.toList).1 (ByteArray.mk #[47]).data.toList).1).fg) ((RS.mk (ab rst rst (0:Nat)).1 us pw hk hs hn hp port false pn pl hq q hf fg false (aw (ab rst rst (0:Nat)).1) (aj (aj (ab rst rst (0:Nat)).2.1 (ByteArray.mk #[47,47]).data.toList).1 (ByteArray.mk #[47]).data.toList).1).bare) ((RS.mk (ab rst rst (0:Nat)).1 us pw hk hs hn hp port false pn pl hq q hf fg false (aw (ab rst rst (0:Nat)).1) (aj (aj (ab rst rst (0:Nat)).2.1 (ByteArray.mk #[47,47]).data.toList).1 (ByteArray.mk #[47]).data.toList).1).sp) ((RS.mk (ab rst rst (0:Nat)).1 us pw hk hs hn hp port false pn pl hq q hf fg false (aw (ab rst rst (0:Nat)).1) (aj (aj (ab rst rst (0:Nat)).2.1 (ByteArray.mk #[47,47]).data.toList).1 (ByteArray.mk #[47]).data.toList).1).rst))]∧
 ((RS.mk sc us pw hk hs hn hp port false pn pl hq q hf fg bare sp rst).aq=((RS.mk (ab rst rst (0:Nat)).1 us pw hk hs hn hp port false pn pl hq q hf fg false (aw (ab rst rst (0:Nat)).1) (aj (aj (ab rst rst (0:Nat)).2.1 (ByteArray.mk #[47,47]).data.toList).1 (ByteArray.mk #[47]).data.toList).1).path.tail,(0:Int))∧
 List.length (RS.mk (ab rst rst (0:Nat)).1 us pw hk hs hn hp port false pn pl hq q hf fg false (aw (ab rst rst (0:Nat)).1) (aj (aj (ab rst rst (0:Nat)).2.1 (ByteArray.mk #[47,47]).data.toList).1 (ByteArray.mk #[47]).data.toList).1).rst≤(300000:Nat)∧
 (RS.mk (ab rst rst (0:Nat)).1 us pw hk hs hn hp port false pn pl hq q hf fg false (aw (ab rst rst (0:Nat)).1) (aj (aj (ab rst rst (0:Nat)).2.1 (ByteArray.mk #[47,47]).data.toList).1 (ByteArray.mk #[47]).data.toList).1).pl.length≤(100000:Nat))∧
 IY k sc us pw hk hs hn hp port pn pl hq q hf fg bare sp rst)∧
 ((aj (aj (ab rst rst (0:Nat)).2.1 (ByteArray.mk #[47,47]).data.toList).1 (ByteArray.mk #[47]).data.toList).2=false→
 (List.length (aj (aj (ab rst rst (0:Nat)).2.1 (ByteArray.mk #[47,47]).data.toList).1 (ByteArray.mk #[47]).data.toList).1).le (300000:Nat)∧
 (aa (aj (aj (ab rst rst (0:Nat)).2.1 (ByteArray.mk #[47,47]).data.toList).1 (ByteArray.mk #[47]).data.toList).1 ↑(aE (aj (aj (ab rst rst (0:Nat)).2.1 (ByteArray.mk #[47,47]).data.toList).1 (ByteArray.mk #[47]).data.toList).1)).length.le (300000:Nat)∧
 (List.length (bG (aa (aj (aj (ab rst rst (0:Nat)).2.1 (ByteArray.mk #[47,47]).data.toList).1 (ByteArray.mk #[47]).data.toList).1 ↑(aE (aj (aj (ab rst rst (0:Nat)).2.1 (ByteArray.mk #[47,47]).data.toList).1 (ByteArray.mk #[47]).data.toList).1)))).le (300000:Nat)∧
 k (PV.int .i64 (0:Int)) [bT (PV.raw (Go.Value.pointer none)) 0 ((ab rst rst (0:Nat)).1) us pw hk hs hn hp port true false ([nI (ae (aj (aj (ab rst rst (0:Nat)).2.1 (ByteArray.mk #[47,47]).data.toList).1 (ByteArray.mk #[47]).data.toList).1 ↑(aE (aj (aj (ab rst rst (0:Nat)).2.1 (ByteArray.mk #[47,47]).data.toList).1 (ByteArray.mk #[47]).data.toList).1)) (aa (aj (aj (ab rst rst (0:Nat)).2.1 (ByteArray.mk #[47,47]).data.toList).1 (ByteArray.mk #[47]).data.toList).1 ↑(aE (aj (aj (ab rst rst (0:Nat)).2.1 (ByteArray.mk #[47,47]).data.toList).1 (ByteArray.mk #[47]).data.toList).1))]) (dX (aa (aj (aj (ab rst rst (0:Nat)).2.1 (ByteArray.mk #[47,47]).data.toList).1 (ByteArray.mk #[47]).data.toList).1 ↑(aE (aj (aj (ab rst rst (0:Nat)).2.1 (ByteArray.mk #[47,47]).data.toList).1 (ByteArray.mk #[47]).data.toList).1)) hq) (dY (aw (ab rst rst (0:Nat)).1) (aa (aj (aj (ab rst rst (0:Nat)).2.1 (ByteArray.mk #[47,47]).data.toList).1 (ByteArray.mk #[47]).data.toList).1 ↑(aE (aj (aj (ab rst rst (0:Nat)).2.1 (ByteArray.mk #[47,47]).data.toList).1 (ByteArray.mk #[47]).data.toList).1)) q) (dZ (bG (aa (aj (aj (ab rst rst (0:Nat)).2.1 (ByteArray.mk #[47,47]).data.toList).1 (ByteArray.mk #[47]).data.toList).1 ↑(aE (aj (aj (ab rst rst (0:Nat)).2.1 (ByteArray.mk #[47,47]).data.toList).1 (ByteArray.mk #[47]).data.toList).1))) hf) (ee (bG (aa (aj (aj (ab rst rst (0:Nat)).2.1 (ByteArray.mk #[47,47]).data.toList).1 (ByteArray.mk #[47]).data.toList).1 ↑(aE (aj (aj (ab rst rst (0:Nat)).2.1 (ByteArray.mk #[47,47]).data.toList).1 (ByteArray.mk #[47]).data.toList).1))) fg) false (aw (ab rst rst (0:Nat)).1) (eh (bG (aa (aj (aj (ab rst rst (0:Nat)).2.1 (ByteArray.mk #[47,47]).data.toList).1 (ByteArray.mk #[47]).data.toList).1 ↑(aE (aj (aj (ab rst rst (0:Nat)).2.1 (ByteArray.mk #[47,47]).data.toList).1 (ByteArray.mk #[47]).data.toList).1))))]))))))))):=by kernel_rfl
attribute [local irreducible] Go.Vc.cG Go.Vc.bL
theorem yg(sc us pw:Bs)(hk:Int)(hs:Bs)(hn:Int)(hp:List Int)(port:Int)(pn:Bool)(pl:List Bs)(hq:Bool)(q:Bs)(hf:Bool)(fg:Bs)(bare sp:Bool)(rst:Bs):bh Tryz.prog az 47 [.ptr 0 0] [aD 1 (.raw (.pointer none)) sc us pw hk hs hn hp port false pn pl hq q hf fg bare sp rst] (rst.length≤300000∧pl.length≤100000∧(ab rst rst 0).2.2=true) (.int .i64 (RS.mk sc us pw hk hs hn hp port false pn pl hq q hf fg bare sp rst).aq.2) [aD 0 (.raw (.pointer none)) ((RS.mk sc us pw hk hs hn hp port false pn pl hq q hf fg bare sp rst).aq.1.sc) ((RS.mk sc us pw hk hs hn hp port false pn pl hq q hf fg bare sp rst).aq.1.us) ((RS.mk sc us pw hk hs hn hp port false pn pl hq q hf fg bare sp rst).aq.1.pw) ((RS.mk sc us pw hk hs hn hp port false pn pl hq q hf fg bare sp rst).aq.1.hk) ((RS.mk sc us pw hk hs hn hp port false pn pl hq q hf fg bare sp rst).aq.1.hs) ((RS.mk sc us pw hk hs hn hp port false pn pl hq q hf fg bare sp rst).aq.1.hn) ((RS.mk sc us pw hk hs hn hp port false pn pl hq q hf fg bare sp rst).aq.1.hp) ((RS.mk sc us pw hk hs hn hp port false pn pl hq q hf fg bare sp rst).aq.1.port) ((RS.mk sc us pw hk hs hn hp port false pn pl hq q hf fg bare sp rst).aq.1.opq) ((RS.mk sc us pw hk hs hn hp port false pn pl hq q hf fg bare sp rst).aq.1.pn) ((RS.mk sc us pw hk hs hn hp port false pn pl hq q hf fg bare sp rst).aq.1.pl) ((RS.mk sc us pw hk hs hn hp port false pn pl hq q hf fg bare sp rst).aq.1.hq) ((RS.mk sc us pw hk hs hn hp port false pn pl hq q hf fg bare sp rst).aq.1.q) ((RS.mk sc us pw hk hs hn hp port false pn pl hq q hf fg bare sp rst).aq.1.hf) ((RS.mk sc us pw hk hs hn hp port false pn pl hq q hf fg bare sp rst).aq.1.fg) ((RS.mk sc us pw hk hs hn hp port false pn pl hq q hf fg bare sp rst).aq.1.bare) ((RS.mk sc us pw hk hs hn hp port false pn pl hq q hf fg bare sp rst).aq.1.sp) ((RS.mk sc us pw hk hs hn hp port false pn pl hq q hf fg bare sp rst).aq.1.rst)]:=uy (by kernel_rfl) yf (H:=ye sc us pw hk hs hn hp port pn pl hq q hf fg bare sp rst) (fuel:=1000) Tryz.func47 (by kernel_rfl) (Nat.le_of_ble_eq_true rfl) fun hpre=>(DQ sc us pw hk hs hn hp port pn pl hq q hf fg bare sp rst _).mpr (by
 obtain ⟨hp1,hp2,hp3⟩:=hpre
 have hRl:=ry rst rst 0
 have hsch:(RS.mk sc us pw hk hs hn hp port false pn pl hq q hf fg bare sp rst).jh=(RS.mk (ab rst rst 0).1 us pw hk hs hn hp port false pn pl hq q hf fg false (aw (ab rst rst 0).1) (ab rst rst 0).2.1,0):=if_pos hp3
 have bA:=I0 sc us pw hk hs hn hp port pn pl hq q hf fg bare sp rst
 have bB:=IZ sc us pw hk hs hn hp port pn pl hq q hf fg bare sp rst
 have e0:(RS.mk sc us pw hk hs hn hp port false pn pl hq q hf fg bare sp rst).aq=(if(ab rst rst 0).1=fL then(if(RS.mk (ab rst rst 0).1 us pw hk hs hn hp port false pn pl hq q hf fg false (aw (ab rst rst 0).1) (ab rst rst 0).2.1).bb.2=0 then((RS.mk (ab rst rst 0).1 us pw hk hs hn hp port false pn pl hq q hf fg false (aw (ab rst rst 0).1) (ab rst rst 0).2.1).bb.1.tail,0)else(RS.mk (ab rst rst 0).1 us pw hk hs hn hp port false pn pl hq q hf fg false (aw (ab rst rst 0).1) (ab rst rst 0).2.1).bb)else if aw (ab rst rst 0).1=true then(RS.mk (ab rst rst 0).1 us pw hk hs hn hp port false pn pl hq q hf fg false (aw (ab rst rst 0).1) (ab rst rst 0).2.1).skip.b9 else if preB (ab rst rst 0).2.1 [47,47]=true then((RS.mk (ab rst rst 0).1 us pw hk hs hn hp port false pn pl hq q hf fg false (aw (ab rst rst 0).1) (ab rst rst 0).2.1).cut 2).b9 else if preB (ab rst rst 0).2.1 [47]=true then(((RS.mk (ab rst rst 0).1 us pw hk hs hn hp port false pn pl hq q hf fg false (aw (ab rst rst 0).1) (ab rst rst 0).2.1).cut 1).path.tail,0)else((RS.mk (ab rst rst 0).1 us pw hk hs hn hp port false pn pl hq q hf fg false (aw (ab rst rst 0).1) (ab rst rst 0).2.1).pq.tail,0)):=by
  unfold RS.aq
  rw [hsch]
  rfl
 generalize (ab rst rst 0).1=C at *
 generalize (ab rst rst 0).2.1=R at *
 have ef:(ByteArray.mk #[102,105,108,101]).data.toList=fL:=rfl
 have e22:(ByteArray.mk #[47,47]).data.toList=([47,47]:Bs):=rfl
 have e21:(ByteArray.mk #[47]).data.toList=([47]:Bs):=rfl
 have hR:R.length≤300000:=by omega
 have hQR:=iL R
 have dz:∀(l:Bs) (z:Int),l.length≤300000→(aa l z).length≤300000:=fun l z h=>Nat.le_trans (cR l z) h
 have qz:∀l:Bs,l.length≤300000→(bG l).length≤300000:=fun l h=>Nat.le_trans (iL l) h
 have c2t:preB R [47,47]=true→aj R (ByteArray.mk #[47,47]).data.toList=(aa R 2,true):=fun h=>by unfold aj;rw [e22,h];rfl
 have c2f:preB R [47,47]=false→aj R (ByteArray.mk #[47,47]).data.toList=(R,false):=fun h=>by unfold aj;rw [e22,h];rfl
 have c1t:preB R [47]=true→aj R (ByteArray.mk #[47]).data.toList=(aa R 1,true):=fun h=>by unfold aj;rw [e21,h];rfl
 have c1f:preB R [47]=false→aj R (ByteArray.mk #[47]).data.toList=(R,false):=fun h=>by unfold aj;rw [e21,h];rfl
 have hfl:=DP (RS.mk C us pw hk hs hn hp port false pn pl hq q hf fg false (aw C) R)
 have er:=AF (RS.mk C us pw hk hs hn hp port false pn pl hq q hf fg false (aw C) R)
 refine ⟨⟨hp1,hp3⟩,fun h=>absurd h (by decide),fun _=>⟨fun h=>(by cases h),fun _=>⟨fun hC=>⟨⟨hR,hp2⟩,fun h3=>?_,fun h3=>⟨Nat.le_trans hfl hR,qz _ (Nat.le_trans hfl hR),?_⟩⟩,fun hC=>⟨fun _=>⟨fun hsp=>⟨trivial,fun _ h=>(by cases h),fun h=>(by cases h),fun _=>?_⟩,fun hsp=>⟨fun _ h=>(by cases h),fun h=>(by cases h),fun _=>?_⟩⟩,fun h=>absurd h (by decide)⟩⟩⟩⟩
 ·have h4:¬(RS.mk C us pw hk hs hn hp port false pn pl hq q hf fg false (aw C) R).bb.2=0:=by simpa using h3
  show KT (RS.mk sc us pw hk hs hn hp port false pn pl hq q hf fg bare sp rst).aq _ _
  rw [e0,if_pos (show C=fL from of_decide_eq_true hC),if_neg h4]
  exact ⟨rfl,congrArg (fun r=>[nZ r]) er.symm⟩
 ·have h4:(RS.mk C us pw hk hs hn hp port false pn pl hq q hf fg false (aw C) R).bb.2=0:=by simpa using h3
  show KT (RS.mk sc us pw hk hs hn hp port false pn pl hq q hf fg bare sp rst).aq _ _
  rw [e0,if_pos (show C=fL from of_decide_eq_true hC),if_pos h4]
  refine ⟨rfl,?_⟩
  show _=[nZ (RS.mk C us pw hk hs hn hp port false pn pl hq q hf fg false (aw C) R).bb.1.tail]
  rw [gV]
  have gen:∀G:RS,G={(RS.mk C us pw hk hs hn hp port false pn pl hq q hf fg false (aw C) R)with hk:=G.hk,hs:=G.hs,hn:=G.hn,hp:=G.hp,pn:=G.pn,pl:=G.pl,rst:=G.rst}→nZ {(RS.mk C us pw hk hs hn hp port false pn pl hq q hf fg false (aw C) R)with hk:=G.hk,hs:=G.hs,hn:=G.hn,hp:=G.hp,pn:=G.pn,pl:=G.pl,hq:=dX G.rst hq,q:=dY (aw C) G.rst q,hf:=dZ (bG G.rst) hf,fg:=ee (bG G.rst) fg,rst:=eh (bG G.rst)}=nZ {G with hq:=dX G.rst G.hq,q:=dY G.sp G.rst G.q,hf:=dZ (bG G.rst) G.hf,fg:=ee (bG G.rst) G.fg,rst:=eh (bG G.rst)}:=fun G e=>by
   have a1:G.sc=C:=(by have h:=congrArg RS.sc e;exact h)
   have a2:G.us=us:=(by have h:=congrArg RS.us e;exact h)
   have a3:G.pw=pw:=(by have h:=congrArg RS.pw e;exact h)
   have a4:G.port=port:=(by have h:=congrArg RS.port e;exact h)
   have a5:G.opq=false:=(by have h:=congrArg RS.opq e;exact h)
   have a6:G.hq=hq:=(by have h:=congrArg RS.hq e;exact h)
   have a7:G.q=q:=(by have h:=congrArg RS.q e;exact h)
   have a8:G.hf=hf:=(by have h:=congrArg RS.hf e;exact h)
   have a9:G.fg=fg:=(by have h:=congrArg RS.fg e;exact h)
   have a10:G.bare=false:=(by have h:=congrArg RS.bare e;exact h)
   have a11:G.sp=aw C:=(by have h:=congrArg RS.sp e;exact h)
   simp only [a1,a2,a3,a4,a5,a6,a7,a8,a9,a10,a11]
  exact congrArg (fun y=>[y]) (gen _ er)
 ·have hC':¬C=fL:=of_decide_eq_false hC
  refine ⟨fun h=>⟨hR,rfl,⟨?_,Nat.le_trans (rv _ _ _ _) hR,hp2⟩,bA⟩,fun h=>⟨trivial,?_⟩⟩
  ·rw [e0,if_neg hC',if_pos h];rfl
  have h':¬aw C=true:=by rw [h];decide
  cases h2:preB R [47,47]with
  |true=>
   rw [c2t h2]
   refine ⟨fun _=>⟨rfl,⟨?_,dz _ _ hR,hp2⟩,bA⟩,fun h=>(by cases h)⟩
   rw [e0,if_neg hC',if_neg h',if_pos h2];rfl
  |false=>
   rw [c2f h2]
   refine ⟨fun h=>(by cases h),fun _=>⟨trivial,?_⟩⟩
   show(_=true→_)∧(_=false→_)
   have h2':¬preB R [47,47]=true:=by rw [h2];decide
   cases h1:preB R [47]with
   |true=>
    rw [c1t h1]
    refine ⟨fun _=>⟨rfl,⟨?_,dz _ _ hR,hp2⟩,bB⟩,fun h=>(by cases h)⟩
    rw [e0,if_neg hC',if_neg h',if_neg h2',if_pos h1];rfl
   |false=>
    rw [c1f h1]
    have h1':¬preB R [47]=true:=by rw [h1];decide
    refine ⟨fun h=>(by cases h),fun _=>⟨hR,dz _ _ hR,qz _ (dz _ _ hR),?_⟩⟩
    show KT (RS.mk sc us pw hk hs hn hp port false pn pl hq q hf fg bare sp rst).aq _ _
    rw [e0,if_neg hC',if_neg h',if_neg h2',if_neg h1']
    refine ⟨rfl,?_⟩
    show _=[nZ (RS.mk C us pw hk hs hn hp port false pn pl hq q hf fg false (aw C) R).pq.tail]
    rw [gV]
    rfl
 ·have hC':¬C=fL:=of_decide_eq_false hC
  refine ⟨fun h=>⟨hR,rfl,⟨?_,Nat.le_trans (rv _ _ _ _) hR,hp2⟩,bA⟩,fun h=>⟨trivial,?_⟩⟩
  ·rw [e0,if_neg hC',if_pos h];rfl
  have h':¬aw C=true:=by rw [h];decide
  cases h2:preB R [47,47]with
  |true=>
   rw [c2t h2]
   refine ⟨fun _=>⟨rfl,⟨?_,dz _ _ hR,hp2⟩,bA⟩,fun h=>(by cases h)⟩
   rw [e0,if_neg hC',if_neg h',if_pos h2];rfl
  |false=>
   rw [c2f h2]
   refine ⟨fun h=>(by cases h),fun _=>⟨trivial,?_⟩⟩
   show(_=true→_)∧(_=false→_)
   have h2':¬preB R [47,47]=true:=by rw [h2];decide
   cases h1:preB R [47]with
   |true=>
    rw [c1t h1]
    refine ⟨fun _=>⟨rfl,⟨?_,dz _ _ hR,hp2⟩,bB⟩,fun h=>(by cases h)⟩
    rw [e0,if_neg hC',if_neg h',if_neg h2',if_pos h1];rfl
   |false=>
    rw [c1f h1]
    have h1':¬preB R [47]=true:=by rw [h1];decide
    refine ⟨fun h=>(by cases h),fun _=>⟨hR,dz _ _ hR,qz _ (dz _ _ hR),?_⟩⟩
    show KT (RS.mk sc us pw hk hs hn hp port false pn pl hq q hf fg bare sp rst).aq _ _
    rw [e0,if_neg hC',if_neg h',if_neg h2',if_neg h1']
    refine ⟨rfl,?_⟩
    show _=[nZ (RS.mk C us pw hk hs hn hp port false pn pl hq q hf fg false (aw C) R).pq.tail]
    rw [gV]
    rfl)
end
theorem yh(sc us pw:Bs)(hk:Int)(hs:Bs)(hn:Int)(hp:List Int)(port:Int)(pn:Bool)(pl:List Bs)(hq:Bool)(q:Bs)(hf:Bool)(fg:Bs)(bare sp:Bool)(rst:Bs):bh Tryz.prog az 47 [.ptr 0 0] [aD 1 (.raw (.pointer none)) sc us pw hk hs hn hp port false pn pl hq q hf fg bare sp rst] (rst.length≤300000∧pl.length≤100000) (.int .i64 (RS.mk sc us pw hk hs hn hp port false pn pl hq q hf fg bare sp rst).aq.2) [aD 0 (.raw (.pointer none)) ((RS.mk sc us pw hk hs hn hp port false pn pl hq q hf fg bare sp rst).aq.1.sc) ((RS.mk sc us pw hk hs hn hp port false pn pl hq q hf fg bare sp rst).aq.1.us) ((RS.mk sc us pw hk hs hn hp port false pn pl hq q hf fg bare sp rst).aq.1.pw) ((RS.mk sc us pw hk hs hn hp port false pn pl hq q hf fg bare sp rst).aq.1.hk) ((RS.mk sc us pw hk hs hn hp port false pn pl hq q hf fg bare sp rst).aq.1.hs) ((RS.mk sc us pw hk hs hn hp port false pn pl hq q hf fg bare sp rst).aq.1.hn) ((RS.mk sc us pw hk hs hn hp port false pn pl hq q hf fg bare sp rst).aq.1.hp) ((RS.mk sc us pw hk hs hn hp port false pn pl hq q hf fg bare sp rst).aq.1.port) ((RS.mk sc us pw hk hs hn hp port false pn pl hq q hf fg bare sp rst).aq.1.opq) ((RS.mk sc us pw hk hs hn hp port false pn pl hq q hf fg bare sp rst).aq.1.pn) ((RS.mk sc us pw hk hs hn hp port false pn pl hq q hf fg bare sp rst).aq.1.pl) ((RS.mk sc us pw hk hs hn hp port false pn pl hq q hf fg bare sp rst).aq.1.hq) ((RS.mk sc us pw hk hs hn hp port false pn pl hq q hf fg bare sp rst).aq.1.q) ((RS.mk sc us pw hk hs hn hp port false pn pl hq q hf fg bare sp rst).aq.1.hf) ((RS.mk sc us pw hk hs hn hp port false pn pl hq q hf fg bare sp rst).aq.1.fg) ((RS.mk sc us pw hk hs hn hp port false pn pl hq q hf fg bare sp rst).aq.1.bare) ((RS.mk sc us pw hk hs hn hp port false pn pl hq q hf fg bare sp rst).aq.1.sp) ((RS.mk sc us pw hk hs hn hp port false pn pl hq q hf fg bare sp rst).aq.1.rst)]:=fun hpre=>by
 cases hb:(ab rst rst 0).2.2 with
 |true=>exact yg sc us pw hk hs hn hp port pn pl hq q hf fg bare sp rst ⟨hpre.1,hpre.2,hb⟩
 |false=>exact yc sc us pw hk hs hn hp port pn pl hq q hf fg bare sp rst ⟨hpre.1,hb⟩
def DR:PV→PV
 |.row true (.strs []) 0=>.row true (.strs []) 1
 |y=>y
theorem yi {G:Gh}{w:World}{y:PV}{u:Value}(h:aP y G w u):aP (DR y) G w u:=by
 unfold DR
 split
 ·rcases h with⟨h1,h2,h3⟩|⟨h1,-⟩
  ·exact .inl ⟨h1,h2,h3⟩
  ·cases h1
 ·exact h
theorem yj(y:PV):(DR y).wid=y.wid:=by
 unfold DR
 split<;>rfl
theorem yk(sc us pw:Bs)(hk:Int)(hs:Bs)(hn:Int)(hp:List Int)(port:Int)(hq:Bool)(q:Bs)(hf:Bool)(fg:Bs)(bare sp:Bool)(rst:Bs):bh Tryz.prog az 47 [.ptr 0 0] [aD 0 (.raw (.pointer none)) sc us pw hk hs hn hp port false true [] hq q hf fg bare sp rst] (rst.length≤300000) (.int .i64 (RS.mk sc us pw hk hs hn hp port false true ([]:List Bs) hq q hf fg bare sp rst).aq.2) [aD 0 (.raw (.pointer none)) ((RS.mk sc us pw hk hs hn hp port false true ([]:List Bs) hq q hf fg bare sp rst).aq.1.sc) ((RS.mk sc us pw hk hs hn hp port false true ([]:List Bs) hq q hf fg bare sp rst).aq.1.us) ((RS.mk sc us pw hk hs hn hp port false true ([]:List Bs) hq q hf fg bare sp rst).aq.1.pw) ((RS.mk sc us pw hk hs hn hp port false true ([]:List Bs) hq q hf fg bare sp rst).aq.1.hk) ((RS.mk sc us pw hk hs hn hp port false true ([]:List Bs) hq q hf fg bare sp rst).aq.1.hs) ((RS.mk sc us pw hk hs hn hp port false true ([]:List Bs) hq q hf fg bare sp rst).aq.1.hn) ((RS.mk sc us pw hk hs hn hp port false true ([]:List Bs) hq q hf fg bare sp rst).aq.1.hp) ((RS.mk sc us pw hk hs hn hp port false true ([]:List Bs) hq q hf fg bare sp rst).aq.1.port) ((RS.mk sc us pw hk hs hn hp port false true ([]:List Bs) hq q hf fg bare sp rst).aq.1.opq) ((RS.mk sc us pw hk hs hn hp port false true ([]:List Bs) hq q hf fg bare sp rst).aq.1.pn) ((RS.mk sc us pw hk hs hn hp port false true ([]:List Bs) hq q hf fg bare sp rst).aq.1.pl) ((RS.mk sc us pw hk hs hn hp port false true ([]:List Bs) hq q hf fg bare sp rst).aq.1.hq) ((RS.mk sc us pw hk hs hn hp port false true ([]:List Bs) hq q hf fg bare sp rst).aq.1.q) ((RS.mk sc us pw hk hs hn hp port false true ([]:List Bs) hq q hf fg bare sp rst).aq.1.hf) ((RS.mk sc us pw hk hs hn hp port false true ([]:List Bs) hq q hf fg bare sp rst).aq.1.fg) ((RS.mk sc us pw hk hs hn hp port false true ([]:List Bs) hq q hf fg bare sp rst).aq.1.bare) ((RS.mk sc us pw hk hs hn hp port false true ([]:List Bs) hq q hf fg bare sp rst).aq.1.sp) ((RS.mk sc us pw hk hs hn hp port false true ([]:List Bs) hq q hf fg bare sp rst).aq.1.rst)]:=fun hpre F w vs bs τ hF hT hw hb hτ hl hx=>
 yh sc us pw hk hs hn hp port true [] hq q hf fg bare sp rst ⟨hpre,Nat.zero_le _⟩ F w vs bs τ hF hT hw hb hτ ⟨hl.len,hl.nd,hl.bF,hl.mks,hl.inj,fun i x hx=>by
  cases i with
  |succ i=>cases hx
  |zero=>
   injection hx with hx
   subst hx
   obtain ⟨b,h1,u,e,fz,g1,g2,g3,g4,g5⟩:=hl.box 0 _ rfl
   exact ⟨b,h1,u,e,fz,g1,g2,aP.map (f:=DR) (fun y v _ hy=>yi hy) (fun y _=>yj y) g3,g4,g5⟩⟩ hx
theorem DS(sc us pw:Bs)(hk:Int)(hs:Bs)(hn:Int)(hp:List Int)(port:Int)(hq:Bool)(q:Bs)(hf:Bool)(fg:Bs)(bare sp:Bool)(rst:Bs):ag Tryz.prog az 47 [.ptr 0 0,aD 0 (.raw (.pointer none)) sc us pw hk hs hn hp port false true [] hq q hf fg bare sp rst] ⟨rst.length≤300000,.tup [.int .i64 (RS.mk sc us pw hk hs hn hp port false true ([]:List Bs) hq q hf fg bare sp rst).aq.2,aD 0 (.raw (.pointer none)) ((RS.mk sc us pw hk hs hn hp port false true ([]:List Bs) hq q hf fg bare sp rst).aq.1.sc) ((RS.mk sc us pw hk hs hn hp port false true ([]:List Bs) hq q hf fg bare sp rst).aq.1.us) ((RS.mk sc us pw hk hs hn hp port false true ([]:List Bs) hq q hf fg bare sp rst).aq.1.pw) ((RS.mk sc us pw hk hs hn hp port false true ([]:List Bs) hq q hf fg bare sp rst).aq.1.hk) ((RS.mk sc us pw hk hs hn hp port false true ([]:List Bs) hq q hf fg bare sp rst).aq.1.hs) ((RS.mk sc us pw hk hs hn hp port false true ([]:List Bs) hq q hf fg bare sp rst).aq.1.hn) ((RS.mk sc us pw hk hs hn hp port false true ([]:List Bs) hq q hf fg bare sp rst).aq.1.hp) ((RS.mk sc us pw hk hs hn hp port false true ([]:List Bs) hq q hf fg bare sp rst).aq.1.port) ((RS.mk sc us pw hk hs hn hp port false true ([]:List Bs) hq q hf fg bare sp rst).aq.1.opq) ((RS.mk sc us pw hk hs hn hp port false true ([]:List Bs) hq q hf fg bare sp rst).aq.1.pn) ((RS.mk sc us pw hk hs hn hp port false true ([]:List Bs) hq q hf fg bare sp rst).aq.1.pl) ((RS.mk sc us pw hk hs hn hp port false true ([]:List Bs) hq q hf fg bare sp rst).aq.1.hq) ((RS.mk sc us pw hk hs hn hp port false true ([]:List Bs) hq q hf fg bare sp rst).aq.1.q) ((RS.mk sc us pw hk hs hn hp port false true ([]:List Bs) hq q hf fg bare sp rst).aq.1.hf) ((RS.mk sc us pw hk hs hn hp port false true ([]:List Bs) hq q hf fg bare sp rst).aq.1.fg) ((RS.mk sc us pw hk hs hn hp port false true ([]:List Bs) hq q hf fg bare sp rst).aq.1.bare) ((RS.mk sc us pw hk hs hn hp port false true ([]:List Bs) hq q hf fg bare sp rst).aq.1.sp) ((RS.mk sc us pw hk hs hn hp port false true ([]:List Bs) hq q hf fg bare sp rst).aq.1.rst)]⟩:=ag.aZ (fun h=>by have e:List.isEmpty (PV.aC PV.bt [.ptr 0 0,aD 0 (.raw (.pointer none)) sc us pw hk hs hn hp port false true [] hq q hf fg bare sp rst])=false:=(by kernel_rfl);exact Bool.noConfusion (e.symm.trans (congrArg List.isEmpty h))) (yk sc us pw hk hs hn hp port hq q hf fg bare sp rst)
def lD:List PV→Option aF:=fun xs=>match xs with
 |[.ptr 0 0,aD 0 (.raw (.pointer none)) sc us pw hk hs hn hp port false true [] hq q hf fg bare sp rst]=>some ⟨rst.length≤300000,.tup [.int .i64 (RS.mk sc us pw hk hs hn hp port false true ([]:List Bs) hq q hf fg bare sp rst).aq.2,aD 0 (.raw (.pointer none)) ((RS.mk sc us pw hk hs hn hp port false true ([]:List Bs) hq q hf fg bare sp rst).aq.1.sc) ((RS.mk sc us pw hk hs hn hp port false true ([]:List Bs) hq q hf fg bare sp rst).aq.1.us) ((RS.mk sc us pw hk hs hn hp port false true ([]:List Bs) hq q hf fg bare sp rst).aq.1.pw) ((RS.mk sc us pw hk hs hn hp port false true ([]:List Bs) hq q hf fg bare sp rst).aq.1.hk) ((RS.mk sc us pw hk hs hn hp port false true ([]:List Bs) hq q hf fg bare sp rst).aq.1.hs) ((RS.mk sc us pw hk hs hn hp port false true ([]:List Bs) hq q hf fg bare sp rst).aq.1.hn) ((RS.mk sc us pw hk hs hn hp port false true ([]:List Bs) hq q hf fg bare sp rst).aq.1.hp) ((RS.mk sc us pw hk hs hn hp port false true ([]:List Bs) hq q hf fg bare sp rst).aq.1.port) ((RS.mk sc us pw hk hs hn hp port false true ([]:List Bs) hq q hf fg bare sp rst).aq.1.opq) ((RS.mk sc us pw hk hs hn hp port false true ([]:List Bs) hq q hf fg bare sp rst).aq.1.pn) ((RS.mk sc us pw hk hs hn hp port false true ([]:List Bs) hq q hf fg bare sp rst).aq.1.pl) ((RS.mk sc us pw hk hs hn hp port false true ([]:List Bs) hq q hf fg bare sp rst).aq.1.hq) ((RS.mk sc us pw hk hs hn hp port false true ([]:List Bs) hq q hf fg bare sp rst).aq.1.q) ((RS.mk sc us pw hk hs hn hp port false true ([]:List Bs) hq q hf fg bare sp rst).aq.1.hf) ((RS.mk sc us pw hk hs hn hp port false true ([]:List Bs) hq q hf fg bare sp rst).aq.1.fg) ((RS.mk sc us pw hk hs hn hp port false true ([]:List Bs) hq q hf fg bare sp rst).aq.1.bare) ((RS.mk sc us pw hk hs hn hp port false true ([]:List Bs) hq q hf fg bare sp rst).aq.1.sp) ((RS.mk sc us pw hk hs hn hp port false true ([]:List Bs) hq q hf fg bare sp rst).aq.1.rst)]⟩
 |_=>none
theorem sh:∀xs c,lD xs=some c→ag Tryz.prog az 47 xs c:=fun xs c h=>by
 unfold lD at h
 split at h
 ·injection h with h;subst h;exact DS _ _ _ _ _ _ _ _ _ _ _ _ _ _ _
 ·cases h
section
theorem tT(l:Bs):(ao l).length≤4*l.length:=by
 have h1:=qF l
 have h2:(de (bY l)).length≤(bY l).length:=(List.dropWhile_sublist _).length_le
 have h3:(eK (de (bY l))).length≤(de (bY l)).length:=by
  unfold eK
  rw [List.length_reverse]
  exact Nat.le_trans (List.dropWhile_sublist _).length_le (by rw [List.length_reverse];exact Nat.le_refl _)
 have h4:(ao l).length≤(eK (de (bY l))).length:=List.length_filter_le _ _
 omega
def BU:cw:=bO [(46,kp),(47,lD)]
def BV(l:Bs):aX:=fun i=>none
theorem AH:cW Tryz.prog az BU:=ai mv (ai sh (ax))
theorem GF(l:Bs)(k:PV→Prop):cG Tryz.prog BU az (BV l) 1000 Tryz.f30 [.str l,.raw (.pointer none)] k=(
 (decide ((1048576:Int)<ak l)=true→
 k
 (PV.tup
 [bC (0:Nat) [] [] [] (0:Int) [] (0:Int) (List.replicate (8:Nat) (0:Int)) (0:Int) false true [] false [] false [],
 PV.int .i64 (6:Int)]))∧
 (decide ((1048576:Int)<ak l)=false→
 (List.length l).le (60000:Nat)∧
 (List.length (ao l)).le (300000:Nat)∧
 ((!decide
 ((RS.mk [] [] [] (0:Int) [] (0:Int) (List.replicate (8:Nat) (0:Int)) (-1:Int) false true []
 false [] false [] false false (ao l)).aq.2=
 (0:Int)))=
 true→
 k
 (PV.tup
 [bC (0:Nat) [] [] [] (0:Int) [] (0:Int) (List.replicate (8:Nat) (0:Int)) (0:Int) false true [] false [] false [],
 PV.int .i64
 (RS.mk [] [] [] (0:Int) [] (0:Int) (List.replicate (8:Nat) (0:Int)) (-1:Int) false true []
 false [] false [] false false (ao l)).aq.2]))∧
 ((!decide
 ((RS.mk [] [] [] (0:Int) [] (0:Int) (List.replicate (8:Nat) (0:Int)) (-1:Int) false true []
 false [] false [] false false (ao l)).aq.2=
 (0:Int)))=
 false→
 k
 (PV.tup
 [bC (0:Nat) (RS.mk [] [] [] (0:Int) [] (0:Int) (List.replicate (8:Nat) (0:Int)) (-1:Int) false true []
 false [] false [] false false (ao l)).aq.1.sc (RS.mk [] [] [] (0:Int) [] (0:Int) (List.replicate (8:Nat) (0:Int)) (-1:Int) false true []
 false [] false [] false false (ao l)).aq.1.us (RS.mk [] [] [] (0:Int) [] (0:Int) (List.replicate (8:Nat) (0:Int)) (-1:Int) false true []
 false [] false [] false false (ao l)).aq.1.pw (RS.mk [] [] [] (0:Int) [] (0:Int) (List.replicate (8:Nat) (0:Int)) (-1:Int) false
 true [] false [] false [] false false (ao l)).aq.1.hk (RS.mk [] [] [] (0:Int) [] (0:Int) (List.replicate (8:Nat) (0:Int)) (-1:Int) false
 true [] false [] false [] false false (ao l)).aq.1.hs (RS.mk [] [] [] (0:Int) [] (0:Int) (List.replicate (8:Nat) (0:Int)) (-1:Int) false
 true [] false [] false [] false false (ao l)).aq.1.hn (RS.mk [] [] [] (0:Int) [] (0:Int) (List.replicate (8:Nat) (0:Int)) (-1:Int) false
 true [] false [] false [] false false (ao l)).aq.1.hp (RS.mk [] [] [] (0:Int) [] (0:Int) (List.replicate (8:Nat) (0:Int)) (-1:Int) false true []
 false [] false [] false false (ao l)).aq.1.port (RS.mk [] [] [] (0:Int) [] (0:Int) (List.replicate (8:Nat) (0:Int)) (-1:Int) false true []
 false [] false [] false false (ao l)).aq.1.opq (RS.mk [] [] [] (0:Int) [] (0:Int) (List.replicate (8:Nat) (0:Int)) (-1:Int) false true []
 false [] false [] false false (ao l)).aq.1.pn (RS.mk [] [] [] (0:Int) [] (0:Int) (List.replicate (8:Nat) (0:Int)) (-1:Int) false true
 [] false [] false [] false false (ao l)).aq.1.pl (RS.mk [] [] [] (0:Int) [] (0:Int) (List.replicate (8:Nat) (0:Int)) (-1:Int) false true []
 false [] false [] false false (ao l)).aq.1.hq (RS.mk [] [] [] (0:Int) [] (0:Int) (List.replicate (8:Nat) (0:Int)) (-1:Int) false true []
 false [] false [] false false (ao l)).aq.1.q (RS.mk [] [] [] (0:Int) [] (0:Int) (List.replicate (8:Nat) (0:Int)) (-1:Int) false true []
 false [] false [] false false (ao l)).aq.1.hf (RS.mk [] [] [] (0:Int) [] (0:Int) (List.replicate (8:Nat) (0:Int)) (-1:Int) false true []
 false [] false [] false false (ao l)).aq.1.fg,
 PV.int .i64 (0:Int)])))):=by kernel_rfl
attribute [local irreducible] Go.Vc.cG
theorem GG(l:Bs):ag Tryz.prog az 30 [.str l,.raw (.pointer none)] ⟨l.length≤60000,.tup [bC 0 ((bH l).1).sc ((bH l).1).us ((bH l).1).pw ((bH l).1).hk ((bH l).1).hs ((bH l).1).hn ((bH l).1).hp ((bH l).1).port ((bH l).1).opq ((bH l).1).pn ((bH l).1).pl ((bH l).1).hq ((bH l).1).q ((bH l).1).hf ((bH l).1).fg,.int .i64 (bH l).2]⟩:=b7 (by kernel_rfl) AH (H:=BV l) (fuel:=1000) Tryz.func30 (by kernel_rfl) fun hpre=>(GF l _).mpr (by
 have hs:=tT l
 refine ⟨fun h=>absurd (of_decide_eq_true h) (by unfold ak;omega),fun _=>⟨show l.length≤60000 from hpre,show(ao l).length≤300000 by omega,fun h=>?_,fun h=>?_⟩⟩
 ·have h2:(!decide ((RS.init (ao l)).aq.2=0))=true:=h
  have h':¬(RS.init (ao l)).aq.2=0:=fun e=>by rw [decide_eq_true e]at h2;cases h2
  have e:bH l=(Lf,(RS.init (ao l)).aq.2):=if_neg h'
  rw [e];rfl
 ·have h2:(!decide ((RS.init (ao l)).aq.2=0))=false:=h
  have h':(RS.init (ao l)).aq.2=0:=Classical.byContradiction fun e=>by rw [decide_eq_false e]at h2;cases h2
  have e:bH l=(RS.init (ao l)).aq:=if_pos h'
  rw [e,h'];rfl)
def n3:List PV→Option aF:=fun xs=>match xs with
 |[.str l,.raw (.pointer none)]=>some ⟨l.length≤60000,.tup [bC 0 ((bH l).1).sc ((bH l).1).us ((bH l).1).pw ((bH l).1).hk ((bH l).1).hs ((bH l).1).hn ((bH l).1).hp ((bH l).1).port ((bH l).1).opq ((bH l).1).pn ((bH l).1).pl ((bH l).1).hq ((bH l).1).q ((bH l).1).hf ((bH l).1).fg,.int .i64 (bH l).2]⟩
 |_=>none
theorem vK:∀xs c,n3 xs=some c→ag Tryz.prog az 30 xs c:=fun xs c h=>by
 unfold n3 at h
 split at h
 ·injection h with h;subst h;exact GG _
 ·cases h
end
section
def yl:cw:=bO [(30,n3)]
def ym(l:Bs):aX:=fun i=>none
theorem yn:cW Tryz.prog az yl:=ai vK (ax)
theorem DT(l:Bs)(k:PV→Prop):cG Tryz.prog yl az (ym l) 1000 Tryz.f19 [.str l] k=(
 (List.length l).le (60000:Nat)∧
 k
 (PV.tup
 [bC (0:Nat) (bH l).1.sc (bH l).1.us (bH l).1.pw (bH l).1.hk (bH l).1.hs (bH l).1.hn (bH l).1.hp (bH l).1.port (bH l).1.opq (bH l).1.pn (bH l).1.pl (bH l).1.hq (bH l).1.q (bH l).1.hf (bH l).1.fg,
 PV.int .i64 (bH l).2])):=by kernel_rfl
attribute [local irreducible] Go.Vc.cG
theorem DU(l:Bs):ag Tryz.prog az 19 [.str l] ⟨l.length≤60000,.tup [bC 0 ((bH l).1).sc ((bH l).1).us ((bH l).1).pw ((bH l).1).hk ((bH l).1).hs ((bH l).1).hn ((bH l).1).hp ((bH l).1).port ((bH l).1).opq ((bH l).1).pn ((bH l).1).pl ((bH l).1).hq ((bH l).1).q ((bH l).1).hf ((bH l).1).fg,.int .i64 (bH l).2]⟩:=b7 (by kernel_rfl) yn (H:=ym l) (fuel:=1000) Tryz.func19 (by kernel_rfl) fun hpre=>(DT l _).mpr (by
 exact ⟨hpre,rfl⟩)
end
section
def yo:cw:=bO []
def yp(nl:Bool)(a:List Bs)(nm:Bool)(b:List Bs):aX:=fun i=>bif Nat.beq i 4 then some ⟨(Int),(fun s x=>(((s.put 5 (.int .i64 x)).put 14 .undef).put 25 .undef)),(fun s=>s.int 5),(fun s x=>let i:=x;0≤i∧i≤a.length∧a.take i.toNat=b.take i.toNat),(fun s x=>let i:=x;((a.length:Int)-i).toNat),[14,25]⟩else none
theorem yq:cW Tryz.prog az yo:=ax
theorem DV(nl:Bool)(a:List Bs)(nm:Bool)(b:List Bs)(k:PV→Prop):cG Tryz.prog yo az (yp nl a nm b) 1000 Tryz.f23 [.row nl (.strs a) 0,.row nm (.strs b) 0] k=(
 ((!decide (Int.ofNat a.length=Int.ofNat b.length))=true→k (PV.bool false))∧
 ((!decide (Int.ofNat a.length=Int.ofNat b.length))=false→
 VS.mk []
 [(0,PV.row nl (an.strs a) (0:Nat)),(1,PV.row nm (an.strs b) (0:Nat)),
 (4,PV.bool false),(5,PV.int .i64 (0:Int)),
 (10,PV.bool !decide (Int.ofNat a.length=Int.ofNat b.length)),((14:Nat),PV.undef),((25:Nat),PV.undef)]
 []=
 VS.mk []
 [(0,PV.row nl (an.strs a) (0:Nat)),(1,PV.row nm (an.strs b) (0:Nat)),
 (4,PV.bool false),((5:Nat),PV.int .i64 (0:Int)),
 (10,PV.bool !decide (Int.ofNat a.length=Int.ofNat b.length)),((14:Nat),PV.undef),((25:Nat),PV.undef)]
 []∧
 ((0:Int)≤(0:Int)∧(0:Int)≤↑a.length∧List.take (Int.toNat (0:Int)) a=List.take (Int.toNat (0:Int)) b)∧
 ∀(x:Int),
 (0:Int)≤x∧x≤↑a.length∧List.take x.toNat a=List.take x.toNat b→
 (decide (x<Int.ofNat a.length)=true→
 within x (Int.ofNat a.length)∧
 within x (Int.ofNat b.length)∧
 ((!decide (cf a x=cf b x))=true→k (PV.bool false))∧
 ((!decide (cf a x=cf b x))=false→
 ay (x+(1:Int))∧
 kz (VS.mk []
 [(0,PV.row nl (an.strs a) (0:Nat)),(1,PV.row nm (an.strs b) (0:Nat)),
 (4,PV.bool false),((5:Nat),PV.int .i64 (x+(1:Int))),
 (10,PV.bool !decide (Int.ofNat a.length=Int.ofNat b.length)),((14:Nat),PV.undef),
 ((25:Nat),PV.undef)]
 [])∧
 ((0:Int)≤x+(1:Int)∧x+(1:Int)≤↑a.length∧List.take (x+(1:Int)).toNat a=List.take (x+(1:Int)).toNat b)∧
 (↑a.length-(x+(1:Int))).toNat<(↑a.length-x).toNat))∧
 (decide (x<Int.ofNat a.length)=false→k (PV.bool true)))):=by kernel_rfl
attribute [local irreducible] Go.Vc.cG
theorem DW(nl:Bool)(a:List Bs)(nm:Bool)(b:List Bs):ag Tryz.prog az 23 [.row nl (.strs a) 0,.row nm (.strs b) 0] ⟨a.length≤1000000,.bool (decide (a=b))⟩:=b7 (by kernel_rfl) yq (H:=yp nl a nm b) (fuel:=1000) Tryz.func23 (by kernel_rfl) fun hpre=>(DV nl a nm b _).mpr (by
 refine ⟨fun h=>?_,fun h=>⟨rfl,⟨by omega,by omega,rfl⟩,fun x ⟨h0,h1,h2⟩=>⟨fun g=>?_,fun g=>?_⟩⟩⟩
 ·rw [decide_eq_false]
  intro e;rw [e]at h;simp at h
 ·have hl:a.length=b.length:=by
   cases e:decide (Int.ofNat a.length=Int.ofNat b.length)with
   |true=>exact Int.ofNat.inj (of_decide_eq_true e)
   |false=>rw [e]at h;cases h
  have hlt:x<a.length:=of_decide_eq_true g
  have ea:a.take (x+1).toNat=a.take x.toNat++[cf a x]:=by
   rw [show(x+1).toNat=x.toNat+1 by omega,List.take_succ_eq_append_getElem (by omega)]
   unfold cf;rw [List.getD_eq_getElem?_getD,List.getElem?_eq_getElem (by omega)];rfl
  have eb:b.take (x+1).toNat=b.take x.toNat++[cf b x]:=by
   rw [show(x+1).toNat=x.toNat+1 by omega,List.take_succ_eq_append_getElem (by omega)]
   unfold cf;rw [List.getD_eq_getElem?_getD,List.getElem?_eq_getElem (by omega)];rfl
  refine ⟨⟨h0,hlt⟩,⟨h0,show x<(b.length:Int) by omega⟩,fun g2=>?_,fun g2=>⟨by unfold ay;omega,rfl,⟨by omega,by omega,?_⟩,by omega⟩⟩
  ·rw [decide_eq_false]
   intro e;subst e;simp at g2
  ·have e:cf a x=cf b x:=by
    cases e:decide (cf a x=cf b x)with
    |true=>exact of_decide_eq_true e
    |false=>rw [e]at g2;cases g2
   rw [ea,eb,h2,e]
 ·have hl:a.length=b.length:=by
   cases e:decide (Int.ofNat a.length=Int.ofNat b.length)with
   |true=>exact Int.ofNat.inj (of_decide_eq_true e)
   |false=>rw [e]at h;cases h
  have hge:¬x<a.length:=of_decide_eq_false g
  rw [List.take_of_length_le (by omega),List.take_of_length_le (by omega)]at h2
  rw [decide_eq_true h2])
def lE:List PV→Option aF:=fun xs=>match xs with
 |[.row nl (.strs a) 0,.row nm (.strs b) 0]=>some ⟨a.length≤1000000,.bool (decide (a=b))⟩
 |_=>none
theorem si:∀xs c,lE xs=some c→ag Tryz.prog az 23 xs c:=fun xs c h=>by
 unfold lE at h
 split at h
 ·injection h with h;subst h;exact DW _ _ _ _
 ·cases h
end
section
theorem tU(sc m:Bs):∀(f:Nat) (s:Bs) (p:Pa),s.length<f→(oF sc m f s p).2.length≤p.2.length+s.length+1
 |0,_,_,h=>by omega
 |f+1,s,p,h=>by
  unfold oF
  split
  ·have:=nO sc p s true
   omega
  ·have hl:=eY s m
   have h1:=nO sc p (s.take (aY s m)) false
   have h2:=tU sc m f (s.drop (aY s m+1)) (cp sc p (s.take (aY s m)) false) (by rw [List.length_drop];omega)
   rw [List.length_drop]at h2
   omega
theorem gv {α:Type}(l:List α)(z:Int):(ae l z).length≤l.length:=by unfold ae;rw [List.length_take];exact Nat.min_le_right _ _
theorem n4 {α:Type}(l:List α)(z:Int):(aa l z).length≤l.length:=by unfold aa;rw [List.length_drop];omega
theorem I1(r:RS):r.path.pl.length≤r.pl.length+r.rst.length+1:=by
 unfold RS.path br kH
 dsimp only
 have:=tU r.sc (eP r.sp) ((ae r.rst (aE r.rst)).length+1) (ae r.rst (aE r.rst)) (r.pn,r.pl) (Nat.lt_succ_self _)
 have:=gv r.rst (aE r.rst)
 dsimp only at *
 omega
def Sm(n:Nat)(r:RS):Prop:=r.pl=[]∧r.rst.length≤n
variable {n:Nat} {r:RS}
theorem Sm.cut(h:Sm n r)(z:Int):Sm n (r.cut z):=⟨h.1,Nat.le_trans (n4 _ _) h.2⟩
theorem Sm.shl(h:Sm n r):Sm n r.shl:=⟨h.1,by
 unfold RS.shl
 dsimp only
 split
 ·exact Nat.le_trans (n4 _ _) h.2
 ·exact h.2⟩
theorem rz(sp:Bool):∀(f:Nat) (k:Int) (l:Bs),(aB f sp k l).length≤l.length
 |0,_,_=>Nat.le_refl _
 |f+1,k,l=>by
  unfold aB
  split
  ·exact Nat.le_trans (rz sp f _ _) (n4 _ _)
  ·exact Nat.le_refl _
theorem Sm.skip(h:Sm n r):Sm n r.skip:=⟨h.1,Nat.le_trans (rz _ _ _ _) h.2⟩
theorem Sm.bm(h:Sm n r)(s:Bs):Sm n (r.bm s).1:=by
 unfold RS.bm
 dsimp only
 (repeat' split)<;>exact h
theorem Sm.aU(h:Sm n r):Sm n r.aU.1:=by
 unfold RS.aU
 dsimp only
 split
 ·split
  ·exact h.cut _
  ·refine Sm.bm ?_ _
   exact ⟨h.1,(h.cut _).2⟩
 ·exact (h.cut _).bm _
theorem Sm.av(h:Sm n r):Sm n r.av.1:=by
 unfold RS.av
 dsimp only
 (repeat' split)<;>exact h.cut _
theorem BW(r:RS):r.tail.pl=r.pl:=by
 unfold RS.tail RS.Iy RS.query
 (repeat' split)<;>rfl
theorem Sm.path(h:Sm n r):r.path.pl.length≤n+1:=by
 have:=I1 r
 have h1:=h.2
 rw [h.1]at this
 simp at this
 omega
theorem Sm.none(h:Sm n r):r.pl.length≤n+1:=by rw [h.1];simp
theorem Sm.b9(h:Sm n r):r.b9.1.pl.length≤n+1:=by
 unfold RS.b9
 split
 ·split
  ·rw [BW];exact h.aU.none
  ·rw [BW];exact h.aU.shl.path
 ·exact h.aU.none
end
theorem yr:∀(l:List UInt8),(∀b∈l,(b.toNat:Int)≤127)→fp l=true:=by
 intro l
 induction l with
 |nil=>intro _;rfl
 |cons b t ih=>
  intro h
  rw [jM (by simp),A9 (l:=b::t) (by simp) (h b List.mem_cons_self)]
  exact ih fun c hc=>h c (List.mem_cons_of_mem _ hc)
theorem yu(sc:Bs)(b:Bool)(w:List Bs):(bN sc (b,w)).2=(bN sc (false,w)).2:=by
 unfold bN
 dsimp only
 split<;>rfl
theorem rA(sc:Bs)(b:Bool)(w:List Bs)(s:Bs)(last:Bool):(cp sc (b,w) s last).2=(cp sc (false,w) s last).2:=by
 have h:=yu sc b w
 unfold cp nH
 cases last<;>simp only [Bool.false_eq_true,if_true,if_false]<;>(repeat' split)<;>first|rfl|exact h|exact congrArg (· ++[[]]) h
def gW(last:Bool)(w:List Bs)(p:Bs):List Bs:=(cp fH (false,w) p last).2
def mL:List Bs→List Bs→List Bs
 |[],w=>w
 |p::t,w=>match t with
  |[]=>gW true w p
  |_::_=>mL t (gW false w p)
def cS:List (UInt8×Bs)→Bs
 |[]=>[]
 |(c,p)::t=>c::(p++cS t)
def I2(p:Bs):Prop:=∀b∈p,32<b.toNat∧b.toNat≤127∧b≠47∧b≠92∧b≠63∧b≠35
def KN(c:UInt8):Prop:=c=47∨c=92
theorem I2.no {p:Bs}(h:I2 p):∀b∈p,List.contains [47,92] b=false:=fun b hb=>by
 obtain ⟨-,-,h1,h2,-,-⟩:=h b hb
 simp [h1,h2]
theorem rB:∀(t:List (UInt8×Bs)) (p:Bs) (pa:Pa),I2 p→(∀e∈t,KN e.1∧I2 e.2)→(kH fH [47,92] (p++cS t) pa).2=mL (p::t.map (·.2)) pa.2
 |[],p,pa,hp,_=>by
  have hi:aY (p++cS []) [47,92]=(p++cS []).length:=by
   rw [cS,List.append_nil];exact tw hp.no
  rw [lr,if_pos hi,cS,List.append_nil]
  exact rA fH pa.1 pa.2 p true
 |(c,q)::t,p,pa,hp,ht=>by
  have hc:=(ht _ (List.mem_cons_self ..)).1
  have hi:aY (p++cS ((c,q)::t)) [47,92]=p.length:=xA hp.no (by rcases hc with h|h<;>rw [show c=_ from h]<;>rfl)
  rw [lr,hi,if_neg (by rw [cS,List.length_append,List.length_cons];omega)]
  have hd:(p++cS ((c,q)::t)).drop (p.length+1)=q++cS t:=by
   rw [cS,←List.drop_drop,List.drop_left];rfl
  rw [hd,List.take_left,rB t q _ (ht _ (List.mem_cons_self ..)).2 fun e he=>ht e (List.mem_cons_of_mem _ he)]
  show mL (q::t.map (·.2)) (cp fH (pa.1,pa.2) p false).2=mL (q::t.map (·.2)) (gW false pa.2 p)
  rw [rA];rfl
theorem DX(r:RS)(X:Bs)(c:UInt8)(Y:Bs)(hX:X=c::Y)(hc:KN c)(hsp:r.sp=true)(hr:r.rst=104::X):r.aU=({r with hk:=2,hs:=[104],hn:=0,hp:=z8,rst:=X},0):=by
 have he:ah r.sp r.rst=1:=by
  unfold ah
  rw [hr,hsp,hX]
  exact xA (xs:=[104]) (by decide) (by rcases hc with h|h<;>rw [h]<;>rfl)
 have hh:aM r.sp [104]=(2,[104],0,z8,0):=by rw [hsp];decide+kernel
 have ht:ae r.rst ((1:Nat):Int)=[104]:=by rw [hr];rfl
 have hdr:aa r.rst ((1:Nat):Int)=X:=by rw [hr];rfl
 have hl:¬0≤aI [104] 64:=FM (by decide)
 unfold RS.aU
 dsimp only
 rw [he,ht,if_neg hl]
 unfold RS.bm
 have hcz:bc [104]=-1:=rfl
 rw [hcz,if_neg (by rintro (h|⟨h,-⟩)<;>cases h)]
 dsimp only
 rw [if_neg (show ¬(0:Int)< -1 by decide),show(RS.cut r ((1:Nat):Int)).sp=r.sp from rfl,hh]
 dsimp only
 rw [if_pos rfl]
 unfold RS.cut
 dsimp only
 rw [hdr,if_neg (show ¬(0:Int)< -1 by decide)]
 rfl
theorem tV:∀(t:List (UInt8×Bs)),(∀e∈t,KN e.1∧I2 e.2)→∀b∈cS t,32<b.toNat∧b.toNat≤127∧b≠63∧b≠35
 |[],_,b,hb=>by cases hb
 |(c,p)::t,h,b,hb=>by
  obtain ⟨h1,h2⟩:=h _ (List.mem_cons_self ..)
  rcases List.mem_cons.1 hb with rfl|hb
  ·rcases h1 with h|h<;>rw [show b=_ from h]<;>decide
  ·rcases List.mem_append.1 hb with hb|hb
   ·obtain ⟨a,b,-,-,c,d⟩:=h2 b hb
    exact ⟨a,b,c,d⟩
   ·exact tV t (fun e he=>h e (List.mem_cons_of_mem _ he)) b hb
def hB:Bs:=[104,116,116,112,58,47,47,104]
theorem GH(c:UInt8)(p:Bs)(t:List (UInt8×Bs))(ht:∀e∈(c,p)::t,KN e.1∧I2 e.2):
 (bH (hB++cS ((c,p)::t))).2=0∧(bH (hB++cS ((c,p)::t))).1.pl=mL (p::t.map (·.2)) []∧(bH (hB++cS ((c,p)::t))).1.hk=2∧(bH (hB++cS ((c,p)::t))).1.hs=[104]∧(bH (hB++cS ((c,p)::t))).1.hn=0∧(bH (hB++cS ((c,p)::t))).1.hp=z8:=by
 have hm:=tV _ ht
 obtain ⟨hc,hp⟩:=ht _ (List.mem_cons_self ..)
 obtain ⟨X,hX⟩:∃X,X=cS ((c,p)::t):=⟨_,rfl⟩
 have hXe:X=c::(p++cS t):=hX
 rw [←hX]at hm⊢
 have hb:∀b∈hB++X,32<b.toNat∧(b.toNat:Int)≤127:=fun b hb=>by
  rcases List.mem_append.1 hb with h|h
  ·exact (show ∀b∈hB,32<b.toNat∧(b.toNat:Int)≤127 by decide) b h
  ·have:=hm b h;omega
 have hst:ao (hB++X)=hB++X:=FO (yr _ fun b h=>(hb b h).2) fun b h=>(hb b h).1
 have hp0:=rW (l:=hB++X) (p:=fH) (r:=47::47::104::X) rfl (by decide) (by decide) (by decide) (by decide)
 have hk:aB (47::47::104::X:Bs).length true 0 (47::47::104::X)=104::X:=by
  rw [Bw 47 _ (.inl rfl) (.inl rfl),Bw 47 _ (.inl rfl) (.inl rfl)]
  refine Dk ?_
  unfold aA
  have:al (104::X) 0=104:=rfl
  rw [this]
  cases decide ((0:Int)<ak (104::X:Bs))<;>rfl
 have e0:({RS.init (47::47::104::X)with sc:=ck fH,sp:=true,bare:=false}:RS).skip={RS.init (104::X)with sc:=fH,sp:=true,bare:=false}:=by
  show({RS.init (47::47::104::X)with sc:=fH,sp:=true,bare:=false,rst:=aB (47::47::104::X:Bs).length true 0 (47::47::104::X)}:RS)=_
  rw [hk];rfl
 rw [e0]at hp0
 have ha:=DX ({RS.init (104::X)with sc:=fH,sp:=true,bare:=false}:RS) X c _ hXe hc rfl rfl
 obtain ⟨A,hA⟩:∃A:RS,A={RS.init X with sc:=fH,sp:=true,bare:=false,hk:=2,hs:=[104],hn:=0,hp:=z8}:=⟨_,rfl⟩
 have ha':({RS.init (104::X)with sc:=fH,sp:=true,bare:=false}:RS).aU=(A,0):=by rw [ha,hA];rfl
 have hap:({RS.init (104::X)with sc:=fH,sp:=true,bare:=false}:RS).b9=(A.shl.path.tail,0):=by
  unfold RS.b9
  rw [ha']
  dsimp only
  rw [if_pos rfl,if_neg (by rw [hA];rintro ⟨h,-⟩;cases h)]
 have hu:bH (hB++X)=(A.shl.path.tail,0):=by
  unfold bH LJ
  rw [hst,hp0,hap,if_pos rfl]
 rw [hu]
 have hs:aA true X 0=true:=by
  unfold aA
  have:al X 0=c.toNat:=by rw [hXe];rfl
  rw [this,decide_eq_true (show(0:Int)<ak X by unfold ak;rw [hXe,List.length_cons];omega)]
  rcases hc with h|h<;>rw [show c=_ from h]<;>rfl
 have hsh:A.shl={A with rst:=p++cS t}:=by
  unfold RS.shl
  have:(if aA A.sp A.rst 0=true then aa A.rst 1 else A.rst)=p++cS t:=by
   rw [show A.sp=true by rw [hA],show A.rst=X by rw [hA];rfl,if_pos hs,hXe];rfl
  rw [this]
 have hq:aE (p++cS t)=(p++cS t).length:=tw fun b hb=>by
  have:=hm b (by rw [hXe];exact List.mem_cons_of_mem _ hb)
  simp [this.2.2.1,this.2.2.2]
 have htk:ae (p++cS t) (((p++cS t).length:Nat):Int)=p++cS t:=by unfold ae;rw [Int.toNat_natCast,List.take_length]
 have hpl:A.shl.path.pl=mL (p::t.map (·.2)) []:=by
  rw [hsh]
  unfold RS.path br
  dsimp only
  rw [hq,htk,show A.sp=true by rw [hA],show A.sc=fH by rw [hA],show A.pl=[] by rw [hA];rfl]
  exact rB t p _ hp fun e he=>ht e (List.mem_cons_of_mem _ he)
 refine ⟨rfl,?_,?_,?_,?_,?_⟩<;>rw [gV]
 ·exact hpl
 all_goals rw [hsh,hA];rfl
end Go.Proofs.YtmfapopclbnlpaaGreatDoor
