package cluster

import (
	"splice/api"
	"splice/bag"
)

// arrivals is how many mails arrive in a round at most.
const arrivals = 3000

// heal lets nothing be down, nor apart, nor under way: a new bag has no mails, and separates no addresses.
func (c *Cluster) heal() {
	for _, m := range c.members() {
		if m.Down() {
			c.wake(m)
		}
		m.disk().Trip(0, api.Loss{})
	}
	c.mails = bag.New()
}

// round lets each tell once what it has to tell, and what comes of that arrive.
func (c *Cluster) round() {
	for i := range c.nodes {
		c.tick(i)
	}
	c.tick(api.AddrChief)
	for _, k := range c.clients {
		c.tell(k)
	}
	c.deliver(arrivals)
}

// deliver lets mails arrive as they were sent. What is sent meanwhile has greater numbers.
func (c *Cluster) deliver(most int) {
	for ids := c.mails.IDs(); len(ids) > 0 && most > 0; ids = c.mails.IDs() {
		ids = ids[:min(len(ids), most)]
		most -= len(ids)
		for _, id := range ids {
			c.arrive(id)
		}
	}
}

// busy tells whether something is left to do. The cores, which are the most to look at, come last.
func (c *Cluster) busy() bool {
	return c.pending() > 0 || c.chief.Busy() || c.held() > 0
}

// pending is how many mutations all clients have that are pending.
func (c *Cluster) pending() (n int) {
	for _, k := range c.clients {
		n += len(k.Pending())
	}
	return n
}

// held is how many mutations all cores hold.
func (c *Cluster) held() (n int) {
	for _, k := range c.Cores() {
		n += len(k.Held)
	}
	return n
}
