package cluster

import (
	"splice/api"
	"splice/chart"
	"splice/client"
	"splice/rec"
)

// nowhere is no address: the bag refuses what is sent there, so that it is lost.
const nowhere = -1

// send sends notes to where each of them goes. What the bag does not take is lost.
func (c *Cluster) send(from int, l []api.Note, to func(api.Note) int) {
	for _, n := range l {
		c.mails.Send(from, to(n), rec.Note(n))
	}
}

// tell sends what a client wants, to those who have it by the chart that it knows.
func (c *Cluster) tell(k *client.Client) {
	x := k.View().Chart()
	c.send(api.AddrClient+k.ID(), k.Wants(), func(n api.Note) int { return c.home(x, n.To) })
}

// post sends what the chief tells nodes.
func (c *Cluster) post(l []api.Post) {
	for _, p := range l {
		c.send(api.AddrChief, []api.Note{p.N}, func(api.Note) int { return c.node(p.Node) })
	}
}

// toldBy is where the notes of a node go.
func (c *Cluster) toldBy(by *node) func(api.Note) int {
	x := by.Chart()
	return func(n api.Note) int {
		switch n.Kind {
		case api.NoteAck, api.NotePage, api.NoteState:
			return c.user(n.Client)
		case api.NoteSealed, api.NoteBegun:
			return api.AddrChief
		case api.NoteChart:
			if n.Client > 0 {
				return c.user(n.Client)
			}
		}
		return c.home(x, n.To)
	}
}

// node is the address of a node.
func (c *Cluster) node(i int) int {
	if i < 0 || i >= len(c.nodes) {
		return nowhere
	}
	return i
}

// user is the address of a client.
func (c *Cluster) user(i int) int {
	if c.Client(i) == nil {
		return nowhere
	}
	return api.AddrClient + i
}

// home is the address of the node where a shard is.
func (c *Cluster) home(x api.Chart, shard int) int {
	s, is := chart.Find(x, shard)
	if !is {
		return nowhere
	}
	return c.node(s.Node)
}

// arrive lets a mail arrive. What its recipient finds wrong with it is not told to anyone.
func (c *Cluster) arrive(id int) {
	mail, _ := c.mails.Take(id)
	n, e := rec.ReadNote(mail.Text)
	m := c.member(mail.To)
	switch {
	case e != api.OK || m != nil && m.Down():
		return
	case m == nil:
		c.Client(mail.To - api.AddrClient).Take(n)
	case mail.To == api.AddrChief:
		c.chief.Take(n)
	default:
		by := c.nodes[mail.To]
		l, _ := by.Take(n)
		c.send(mail.To, l, c.toldBy(by))
	}
}
