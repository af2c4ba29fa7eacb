package cluster

import (
	"bytes"
	"math"
	"slices"

	"barrow/api"
	"barrow/flatten"
	"barrow/image"
	"barrow/replica"
)

// Fair plays a fair round. What a replica refuses in it has no answer to
// stand in.
func (c *Cluster) Fair() {
	early := c.out()
	var replies []api.Parcel
	for _, digest := range c.digests() {
		to := c.replicas[digest.To]
		to.Take(digest.Bytes)
		replies = append(replies, to.Out()...)
	}
	for _, reply := range replies {
		c.replicas[reply.To].Take(reply.Bytes)
	}
	c.send(early, c.out())
}

// digests are those of each replica to each other one.
func (c *Cluster) digests() []api.Parcel {
	var digests []api.Parcel
	for from, r := range c.replicas {
		for to := range c.replicas {
			if to != from {
				r.Sync(to)
			}
		}
		digests = append(digests, r.Out()...)
	}
	return digests
}

// Settle plays fair rounds till nothing is still to come.
func (c *Cluster) Settle(most int) int {
	for played := range most {
		if c.Load() == (api.Load{}) {
			return played
		}
		before := c.images()
		c.Fair()
		if slices.EqualFunc(before, c.images(), bytes.Equal) {
			break // all further rounds would do as little: they count as played
		}
	}
	return max(0, most)
}

// images tell all that hangs on the replicas in a fair round.
func (c *Cluster) images() [][]byte {
	var images [][]byte
	for _, r := range c.replicas {
		images = append(images, image.Save(r))
	}
	return images
}

// Load is what is still to come.
func (c *Cluster) Load() api.Load {
	var load api.Load
	for _, r := range c.replicas {
		load.Acts += c.acts(r)
		load.Stages += c.stages(r)
	}
	return load
}

// acts is how many are still to come to a replica.
func (c *Cluster) acts(r *replica.Replica) int {
	sum := 0
	for epoch, issued := range c.issued {
		if epoch < r.Epoch() {
			continue
		}
		var have api.Clock
		if epoch == r.Epoch() {
			have = r.Clock()
		}
		for i, count := range issued {
			sum += max(0, count-have[i])
		}
	}
	return sum
}

// stages is how many of all rounds are still to come to a replica.
func (c *Cluster) stages(r *replica.Replica) int {
	sum := 0
	for _, p := range c.proposed {
		switch {
		case p.epoch == r.Epoch():
			mine := r.Rounds()[p.coordinator]
			sum += flatten.Stage(mine, c.atCoordinator(p), p.number, r.Self())
		case p.epoch > r.Epoch():
			sum += 3
		}
	}
	return sum
}

// atCoordinator is the round as its coordinator knows it.
func (c *Cluster) atCoordinator(p round) api.Round {
	r := c.replicas[p.coordinator]
	if r.Epoch() > p.epoch {
		return api.Round{Number: math.MaxInt}
	}
	return r.Rounds()[p.coordinator]
}

// Even: do all replicas have the same?
func (c *Cluster) Even() bool {
	first := c.replicas[0]
	epoch, clock, elements := first.Epoch(), first.Clock(), first.Elements()
	return !slices.ContainsFunc(c.replicas, func(r *replica.Replica) bool {
		return r.Epoch() != epoch || r.Clock() != clock || !slices.Equal(r.Elements(), elements)
	})
}

// Issued is how many acts a replica has issued in an epoch.
func (c *Cluster) Issued(epoch, i int) int {
	if i < 0 || i >= len(c.replicas) {
		return 0
	}
	return c.issued[epoch][i]
}
